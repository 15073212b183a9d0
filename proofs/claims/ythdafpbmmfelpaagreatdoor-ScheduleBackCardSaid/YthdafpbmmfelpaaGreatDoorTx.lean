/- Text of the program. -/
import Derived.Test.YthdafpbmmfelpaaGreatDoorWd
import Derived.Lib.ItoaLen
namespace Go.Proofs.YthdafpbmmfelpaaGreatDoor
open Go.ChangeShapes Go.WideShapes Go.ChangeAt Go.RowKit
set_option linter.unusedVariables false
set_option linter.unusedSimpArgs false

def lineL (b : Bar) : List UInt8 := Lib.join ((wordsB b).map (·.data.toList)) [32]
def textL (l : List Bar) : List UInt8 := l.flatMap fun b => lineL b ++ [10]
theorem joinTail_le : ∀ (xs : List (List UInt8)) (m : Nat), (∀ x ∈ xs, x.length ≤ m) → (Lib.joinTail [32] xs).length ≤ xs.length * (m + 1)
  | [], m, h => by simp [Lib.joinTail]
  | x :: r, m, h => by
    have := joinTail_le r m fun y hy => h y (by simp [hy])
    have h0 := h x (by simp)
    unfold Lib.joinTail at this ⊢
    simp only [List.map_cons, List.flatten_cons, List.length_append, List.length_cons, List.length_nil]
    rw [Nat.add_mul]
    omega
theorem join_le (xs : List (List UInt8)) (m : Nat) (h : ∀ x ∈ xs, x.length ≤ m) : (Lib.join xs [32]).length ≤ xs.length * (m + 1) := by
  cases xs with
  | nil => simp [Lib.join_nil]
  | cons x r =>
    rw [Lib.join_cons, List.length_append, List.length_cons, Nat.add_mul]
    have := joinTail_le r m fun y hy => h y (by simp [hy])
    have := h x (by simp)
    omega
theorem itB_le {n : Int} (h0 : -9223372036854775808 ≤ n) (h1 : n ≤ 9223372036854775807) : (itB n).size ≤ 21 := Lib.itoa_length_le n h0 h1
theorem cdB_le {c : Int} (h : isC c = true) : (cdB c).size ≤ 22 := by
  have hc := code_in h
  have := Lib.itoa_length_le c (by omega) (by omega)
  show (cdL c).length ≤ 22
  unfold cdL
  split
  · simp; omega
  · omega
theorem words_le {b : Bar} (hv : barB b = true) (hm : b.mark.size ≤ 60) : (wordsB b).length ≤ 9 ∧ ∀ x ∈ (wordsB b).map (·.data.toList), x.length ≤ 60 := by
  obtain ⟨hC, hln, hft, -, hsz, hc1, hc2⟩ := barB_and hv
  have hs := isz_cases hsz
  have hd5 : b.ds.length ≤ 5 := by rw [hln]; exact ndim_le _
  refine ⟨by unfold wordsB; simp; omega, fun x hx => ?_⟩
  obtain ⟨y, hy, rfl⟩ := List.mem_map.1 hx
  show y.size ≤ 60
  unfold wordsB at hy
  rcases List.mem_append.1 hy with hy | hy
  · simp only [List.mem_cons, List.not_mem_nil, or_false] at hy
    rcases hy with rfl | rfl | rfl | rfl
    · exact hm
    · have := itB_le (n := b.size) (by omega) (by omega); omega
    · have := itB_le (n := b.count) (by omega) (by omega); omega
    · have := cdB_le hC; omega
  · obtain ⟨d, hd, rfl⟩ := List.mem_map.1 hy
    have := fit_in hft d hd
    have := itB_le (n := d) (by omega) (by omega); omega
theorem line_le {b : Bar} (hv : barB b = true) (hm : b.mark.size ≤ 60) : (lineL b).length ≤ 549 := by
  obtain ⟨h1, h2⟩ := words_le hv hm
  have := join_le _ 60 h2
  rw [List.length_map] at this
  unfold lineL
  have : (wordsB b).length * (60 + 1) ≤ 9 * 61 := Nat.mul_le_mul_right _ h1
  omega
theorem text_le : ∀ {l : List Bar}, (∀ b ∈ l, barB b = true) → (∀ b ∈ l, b.mark.size ≤ 60) → (textL l).length ≤ l.length * 550
  | [], h1, h2 => Nat.zero_le _
  | b :: r, h1, h2 => by
    have := text_le (l := r) (fun x hx => h1 x (by simp [hx])) (fun x hx => h2 x (by simp [hx]))
    have k := line_le (h1 b (by simp)) (h2 b (by simp))
    unfold textL at this ⊢
    simp only [List.flatMap_cons, List.length_append, List.length_cons, List.length_nil, Nat.add_mul]
    omega
theorem valid_all {l : List Bar} (h : validL l = true) : l.length ≤ 60 ∧ ∀ b ∈ l, barB b = true := by
  unfold validL at h
  simp only [Bool.and_eq_true, decide_eq_true_eq, List.all_eq_true, List.mem_range] at h
  refine ⟨h.1, fun b hb => ?_⟩
  obtain ⟨i, hi, rfl⟩ := List.mem_iff_getElem.1 hb
  have := h.2 i hi
  rw [okAt_eq hi] at this
  simp only [Bool.and_eq_true] at this
  exact this.1
theorem text_take {l : List Bar} {k : Nat} (h : k < l.length) : textL (l.take (k + 1)) = textL (l.take k) ++ (lineL l[k] ++ [10]) := by
  unfold textL
  rw [List.take_succ_eq_append_getElem h, List.flatMap_append, List.flatMap_cons, List.flatMap_nil, List.append_nil]
theorem join_ret (xs : List ByteArray) (v : Value) (B : Nat) (w : World) (h0 : 0 < xs.length) (hN : xs.length ≤ 9) (hO : Own sb 9 1 B w v xs) (hlen : (Lib.join (xs.map (·.data.toList)) [32]).length ≤ 549) :
    Calls Tryz.prog 42 #[v, .string ⟨#[32]⟩] w fun e w' => e = .returned (.string ⟨(Lib.join (xs.map (·.data.toList)) [32]).toArray⟩) ∧ Below w.heap.size w w' := by
  have hown := hO
  unfold Own at hown
  rw [sb_map] at hown
  rcases hown.2 with ⟨_, h1⟩ | ⟨g, cap, cur, rfl, hg, hh, hn, hc, hz, ht⟩
  · omega
  · have hlt := (Array.getElem?_eq_some_iff.1 hh).1
    unfold maxLen at hc
    refine Tryz.strings_Join g 0 cap xs ⟨#[32]⟩ w ?_ hlt (by omega) hn (by show (Lib.join _ [32]).length ≤ _; omega)
    intro j x hx
    rw [Nat.zero_add, cell_of_row w g j cur 9 (0, 0) hh]
    have h2 : (cur.toList.take (xs.length * 1))[j]? = some (Value.string x) := by rw [ht]; simp [hx]
    rw [List.getElem?_take] at h2
    split at h2
    · simpa using h2
    · cases h2
theorem bat_on {B b : Nat} {p : Value} {bs : List Value} {w w1 : World} (h : Lib.BuilderAt 71 5 B b p bs w) (hb : Below w.heap.size w w1) : Lib.BuilderAt 71 5 B b p bs w1 := by
  obtain ⟨h1, v, h2, h3, h4⟩ := h
  exact ⟨h1, v, (hb.block b (Array.getElem?_eq_some_iff.1 h2).1).trans h2, own_on h3 hb, h4⟩
theorem isb_on {B b : Nat} {bs : List Value} {w w1 : World} (h : Lib.IsBuilder 71 5 B b bs w) (hb : Below w.heap.size w w1) : Lib.IsBuilder 71 5 B b bs w1 := by
  rcases h with h | h
  · exact .inl (bat_on h hb)
  · exact .inr (bat_on h hb)
set_option maxHeartbeats 4000000 in
set_option maxRecDepth 100000 in
theorem Text_no (p : Option Addr) (l : List Bar) (cap : Nat) (w : World) (hS : Slb w p l cap) (hv : validL l = false) :
    Calls Tryz.prog 18 #[.slice p l.length cap] w fun e w' => e = .returned (.tuple #[.string ⟨#[]⟩, .int .i64 1]) ∧ Below w.heap.size w w' := by
  have h15 := Valid_list p l cap w hS
  rw [hv] at h15
  go_enter Tryz.func18, Tryz.ntmps18
  go_wp2_with (go_at_call 15; (with_reducible refine h15.mono ?_); rintro X wq ⟨rfl, hb⟩)
  exact bodyPost_ret (v := .tuple #[.string ⟨#[]⟩, .int .i64 1]) (by simp [results, Tryz.results18, go_sem]) rfl ⟨rfl, hb⟩
set_option maxHeartbeats 4000000 in
set_option maxRecDepth 100000 in
theorem Text_ok (p : Option Addr) (l : List Bar) (cap : Nat) (w : World) (hS : Slb w p l cap) (hv : validL l = true) (hm : ∀ b ∈ l, b.mark.size ≤ 60) (hT : Tab w) :
    Calls Tryz.prog 18 #[.slice p l.length cap] w fun e w' => e = .returned (.tuple #[.string ⟨(textL l).toArray⟩, .int .i64 0]) ∧ Below w.heap.size w w' := by
  have h15 := Valid_list p l cap w hS
  rw [hv] at h15
  obtain ⟨hl, hvb⟩ := valid_all hv
  have HV := Lib.hid hvb
  have HM := Lib.hid hm
  have HT := Lib.hid (text_le hvb hm)
  have HTk : Hid (∀ k, k ≤ l.length → (textL (l.take k)).length ≤ 33000) := Lib.hid fun k hk => by
    have := text_le (l := l.take k) (fun b hb => hvb b (List.mem_of_mem_take hb)) (fun b hb => hm b (List.mem_of_mem_take hb))
    rw [List.length_take] at this
    have : min k l.length * 550 ≤ 60 * 550 := Nat.mul_le_mul_right _ (by omega)
    omega
  clear hv hvb hm
  go_enter Tryz.func18, Tryz.ntmps18
  go_upto_region 4 with (go_at_call 15; (with_reducible refine h15.mono ?_); rintro X w1 ⟨rfl, hb⟩)
  have hg : w.heap.size ≤ w1.heap.size := hb.size
  have I0 := Lib.fresh_isBuilder 71 5 w1
  have B0 := al hb (.cells #[.pointer none, .slice none 0 0] 71)
  have G0 : w1.heap.size ≤ (w1.alloc (.cells #[.pointer none, .slice none 0 0] 71)).heap.size := (al1 w1 _).size
  generalize (w1.alloc (.cells #[.pointer none, .slice none 0 0] 71)) = wz at *
  generalize w1.heap.size = g at *
  clear hb h15
  go_wp2
  go_loopw [13] (fun v wr => ∃ k : Nat, v = .int .i64 k ∧ k ≤ l.length ∧ Lib.IsBuilder 71 5 g g (Lib.byteCells (textL (l.take k))) wr ∧ Below w.heap.size w wr ∧ g ≤ wr.heap.size) (fun v _ => l.length - (intOf v).toNat)
  case atStart => exact ⟨0, rfl, Nat.zero_le _, I0, B0, G0⟩
  case round =>
    clear I0 B0 G0
    obtain ⟨k, rfl, hk, hI, hB, hG⟩ := hrel
    by_cases hlt : k < l.length
    · have g1 : decide ((k : Int) < (l.length : Int)) = true := by simp [hlt]
      have W1 : IntKind.i64.wrap ((k : Int) + 1) = ((k + 1 : Nat) : Int) := by rw [IntWalk.i64_in _ (by omega)]; omega
      have q1 : (0 : Int) ≤ (k : Int) := by omega
      have q2 : (k : Int) < (l.length : Int) := by omega
      obtain ⟨a, rfl, c0, c1, c2, c3, c4⟩ := (hS.on hB).at_ k hlt
      have hmem := List.getElem_mem hlt
      obtain ⟨hw9, hw60⟩ := words_le (HV.out _ hmem) (HM.out _ hmem)
      have hle := line_le (HV.out _ hmem) (HM.out _ hmem)
      have hw0 : 0 < (wordsB l[k]).length := by unfold wordsB; simp
      have h43 := fun W (h : Below w.heap.size w W) => words_any l[k] W ((hS.ok _ hmem).on h) (HV.out _ hmem) (hT.on h)
      have hTl := HTk.out k hk
      have hTx : Hid (Lib.byteCells (textL (l.take (k + 1))) = Lib.byteCells (textL (l.take k)) ++ Lib.strCells ⟨(lineL l[k]).toArray⟩ ++ [.int .u8 10]) := Lib.hid (by
        rw [text_take hlt, ← List.append_assoc]
        simp [Lib.byteCells, Lib.strCells])
      have hBL : (Lib.byteCells (textL (l.take k))).length ≤ 33000 := by unfold Lib.byteCells; rw [List.length_map]; exact hTl
      unfold lineL at hle hTx
      clear hTl hw60
      have E := (Env.nil wr).add wr.heap.size 60 l[k].cs rfl
      rw [bcs] at E
      rw [vcs] at h43
      generalize wordsB l[k] = ws at *
      generalize Lib.byteCells (textL (l.take k)) = BS at *
      generalize l[k].mark = mk at *
      generalize l[k].size = sz at *
      generalize l[k].count = ct at *
      generalize l[k].code = cd at *
      generalize l[k].ds.length = dl at *
      generalize l[k].cap = dc at *
      generalize l[k].p = dp at *
      obtain ⟨-, C0, C1, C2, C3, C4⟩ := s_b5 E
      have HB := Lib.hid hB
      have HI := Lib.hid hI
      have HG := Lib.hid hG
      clear hI hG
      go_wp2_with (first
        | (go_at_call 43; (with_reducible refine (h43 _ (envbb HB.out E)).mono ?_); rintro X wq ⟨v, rfl, hO, hb⟩; replace E := E.on hb; clear hb; have h42 := join_ret ws v _ wq hw0 hw9 hO hle)
        | (go_at_call 42; (with_reducible refine h42.mono ?_); rintro X wj ⟨rfl, hb⟩; replace E := E.on hb; clear hb; have h41 := Tryz.Builder_WriteString g g BS ⟨(Lib.join (ws.map (·.data.toList)) [32]).toArray⟩ wj (isb_on HI.out (envb E)) (by show BS.length + (Lib.join (ws.map (·.data.toList)) [32]).length ≤ _; omega) (Nat.le_trans HG.out (envb E).size))
        | (go_at_call 41; (with_reducible refine h41.mono ?_); rintro X ws2 ⟨rfl, hI2, hb3⟩; have h44 := Tryz.Builder_WriteByte g g _ 10 ws2 (.inr hI2) (by rw [List.length_append, Lib.strCells_length]; show BS.length + (Lib.join (ws.map (·.data.toList)) [32]).length + 1 ≤ _; omega) (Nat.le_trans (Nat.le_trans HG.out (envb E).size) hb3.size))
        | (go_at_call 44; (with_reducible refine h44.mono ?_); rintro X wt ⟨rfl, hI3, hb4⟩))
      have hB2 : Below w.heap.size w wt := ((envbb HB.out E).trans (hb3.mono hg)).trans (hb4.mono hg)
      have hG2 : g ≤ wt.heap.size := Nat.le_trans (Nat.le_trans (Nat.le_trans HG.out (envb E).size) hb3.size) hb4.size
      exact ⟨⟨k + 1, rfl, hlt, (by rw [hTx.out]; exact .inr hI3), hB2, hG2⟩, by simp [intOf]; omega⟩
    · have g1 : decide ((k : Int) < (l.length : Int)) = false := by simp; omega
      have e : l.take k = l := List.take_of_length_le (by omega)
      rw [e] at hI
      have h45 := Tryz.Builder_String_any g g (textL l) wr hI hG
      clear e hI
      go_wp2_with (go_at_call 45; (with_reducible refine h45.mono ?_); rintro X wt ⟨rfl, hb⟩)
      exact bodyPost_ret (v := .tuple #[.string ⟨(textL l).toArray⟩, .int .i64 0]) (by simp [results, Tryz.results18, go_sem]) rfl ⟨rfl, hB.trans (hb.mono hg)⟩
end Go.Proofs.YthdafpbmmfelpaaGreatDoor
