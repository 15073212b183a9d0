/- The words of a line: wordsOf. -/
import Derived.Test.YthdafpbmmfelpaaGreatDoorBl
import Derived.Test.YthdafpbmmfelpaaGreatDoorLg
import Derived.Test.YthdafpbmmfelpaaGreatDoorPa
import Derived.Test.YthdafpbmmfelpaaGreatDoorShf
import Derived.Test.YthdafpbmmfelpaaGreatDoorM4
import Derived.Lib.AppendIntMem
import Derived.Laws.IdiomStrings
import Derived.Laws.Concat
namespace Go.Proofs.YthdafpbmmfelpaaGreatDoor
open Go.ChangeShapes Go.WideShapes Go.ChangeAt Go.RowKit
set_option linter.unusedVariables false
set_option linter.unusedSimpArgs false

/-- The powers of ten are where the program lays them. -/
def Tab (w : World) : Prop := Lib.TabIs Tryz.prog w "internal/strconv.uint64pow10" .u64 Lib.pow10Tab
theorem Tab.on {w w1 : World} (h : Tab w) (hb : Below w.heap.size w w1) : Tab w1 := (Lib.tabBelow_of_tabIs h) w1 hb
def itB (n : Int) : ByteArray := ⟨(Lib.itoa n).toArray⟩
theorem itoa_any (n : Int) (w : World) (h0 : -9223372036854775808 ≤ n) (h1 : n ≤ 9223372036854775807) (ht : Tab w) :
    Calls Tryz.prog 74 #[.int .i64 n] w fun e w' => e = .returned (.string (itB n)) ∧ Below w.heap.size w w' :=
  (Tryz.strconv_Itoa n h0 h1 w ht).mono fun e w' h => ⟨h.1, by obtain ⟨k, os, rfl⟩ := h.2; exact Lib.below_grow _ _ (Nat.le_refl _) _ _⟩
theorem add_strs (w : World) (a b : ByteArray) (h : a.size + b.size ≤ 9223372036854775807) : (Op.stringOp .add a b).run Tryz.prog w = .ok (.string (a ++ b)) w := run_string_add_sum (P := Tryz.prog) w a b h
def sb (s : ByteArray) : List Value := [.string s]
theorem sbl (s : ByteArray) : (sb s).length = 1 := rfl
theorem sb_map (l : List ByteArray) : l.flatMap sb = l.map Value.string := by
  induction l with
  | nil => rfl
  | cons x r ih => rw [List.flatMap_cons, ih]; rfl
/-- A code, with two digits. -/
def cdL (c : Int) : List UInt8 := if c < 10 then 48 :: Lib.itoa c else Lib.itoa c
def cdB (c : Int) : ByteArray := ⟨(cdL c).toArray⟩
def wordsB (b : Bar) : List ByteArray := [b.mark, itB b.size, itB b.count, cdB b.code] ++ b.ds.map itB
theorem code_two {c : Int} (h : isC c = true) : ∃ n : Nat, (itB c).size = n ∧ 1 ≤ n ∧ n ≤ 2 ∧ (⟨(Lib.repeatL [48] (2 - n)).toArray⟩ : ByteArray) ++ itB c = cdB c ∧ (⟨(Lib.repeatL [48] (2 - n)).toArray⟩ : ByteArray).size ≤ 1 := by
  have k : ∀ (i : Nat), (h1 : ¬ i < 10) → i < 100 → c = (i : Int) → ∃ n : Nat, (itB c).size = n ∧ 1 ≤ n ∧ n ≤ 2 ∧ (⟨(Lib.repeatL [48] (2 - n)).toArray⟩ : ByteArray) ++ itB c = cdB c ∧ (⟨(Lib.repeatL [48] (2 - n)).toArray⟩ : ByteArray).size ≤ 1 := by
    intro i h1 h2 e
    subst e
    have e1 : Lib.itoa (i : Int) = [UInt8.ofNat (48 + i / 10), UInt8.ofNat (48 + i % 10)] := by rw [Lib.itoa_nonneg, Lib.decDigits_two h1 h2]
    refine ⟨2, by unfold itB; rw [e1]; rfl, by omega, by omega, ?_, by decide⟩
    unfold itB cdB cdL
    rw [if_neg (by omega), e1, ByteArray.mk_append_mk]
    rfl
  rcases code_in h with rfl | rfl | rfl | rfl | rfl | rfl | rfl | rfl
  · have e1 : Lib.itoa (0 : Int) = [UInt8.ofNat 48] := by
      have := Lib.itoa_nonneg 0
      rw [Lib.decDigits_one (by omega)] at this
      exact this
    refine ⟨1, by unfold itB; rw [e1]; rfl, by omega, by omega, ?_, by decide⟩
    unfold itB cdB cdL
    rw [if_pos (by omega), e1, ByteArray.mk_append_mk]
    rfl
  · exact k 11 (by omega) (by omega) rfl
  · exact k 21 (by omega) (by omega) rfl
  · exact k 26 (by omega) (by omega) rfl
  · exact k 31 (by omega) (by omega) rfl
  · exact k 41 (by omega) (by omega) rfl
  · exact k 51 (by omega) (by omega) rfl
  · exact k 98 (by omega) (by omega) rfl
theorem fit_in : ∀ {l : List Int} {b : Int}, fitB b l = true → ∀ x ∈ l, 1 ≤ x ∧ x ≤ b
  | [], b, h, x, hx => by cases hx
  | y :: r, b, h, x, hx => by
    unfold fitB at h
    simp only [Bool.and_eq_true, decide_eq_true_eq] at h
    rcases List.mem_cons.1 hx with rfl | hx
    · exact ⟨h.1.1, h.1.2⟩
    · have := fit_in h.2 x hx
      omega
theorem info9 : (Tryz.prog.info? 9).map (fun i => (i.zero, i.size, i.bytes)) = some (some (.string ⟨#[]⟩), 1, 16) := by kernel_rfl
theorem dims_at {b : Bar} {w : World} (h : b.Ok w) {k : Nat} (hk : k < b.ds.length) : ∃ a, b.p = some a ∧ w.cell? (a.add k) = some (.int .i64 b.ds[k]) := by
  obtain ⟨q, c, e, h⟩ := h.rd
  unfold Bar.sv at e
  cases e
  exact h k hk
set_option maxHeartbeats 4000000 in
set_option maxRecDepth 100000 in
theorem words_any (b : Bar) (w : World) (hk : b.Ok w) (hv : barB b = true) (hT : Tab w) :
    Calls Tryz.prog 43 #[b.val] w fun e w' => ∃ v, e = .returned v ∧ Own sb 9 1 w.heap.size w' v (wordsB b) ∧ Below w.heap.size w w' := by
  obtain ⟨i0, hi, hz0, hz1, hz2⟩ := info_parts info9
  obtain ⟨hC, hln, hft, -, hsz, hc1, hc2⟩ := barB_and hv
  have hs := isz_cases hsz
  have hcd := code_in hC
  have hd5 : b.ds.length ≤ 5 := by rw [hln]; exact ndim_le _
  obtain ⟨n2, hn2, n2a, n2b, hadd, hrs⟩ := code_two hC
  have hIk := fun W (h : Below w.heap.size w W) => itoa_any b.code W (by omega) (by omega) (hT.on h)
  have hIs := fun W (h : Below w.heap.size w W) => itoa_any b.size W (by omega) (by omega) (hT.on h)
  have hIc := fun W (h : Below w.heap.size w W) => itoa_any b.count W (by omega) (by omega) (hT.on h)
  have hId : Hid (∀ k (hk : k < b.ds.length) W (h : Below w.heap.size w W), Calls Tryz.prog 74 #[.int .i64 b.ds[k]] W fun e w' => e = .returned (.string (itB b.ds[k])) ∧ Below W.heap.size W w') := Lib.hid fun k hk W h => itoa_any _ W (by have := fit_in hft _ (List.getElem_mem hk); omega) (by have := fit_in hft _ (List.getElem_mem hk); omega) (hT.on h)
  have hDA : Hid (∀ k (h : k < b.ds.length), ∃ a, b.p = some a ∧ w.cell? (a.add k) = some (.int .i64 b.ds[k])) := Lib.hid fun k h => dims_at hk h
  have hRp := fun W => Tryz.strings_Repeat ⟨#[48]⟩ (2 - n2) W (by omega) (by simp only [ByteArray.size]; simp; omega)
  have hAd := fun W => add_strs W ⟨(Lib.repeatL [48] (2 - n2)).toArray⟩ (itB b.code) (by omega)
  rw [hadd] at hAd
  have hW : IntKind.i64.wrap (2 - (n2 : Int)) = ((2 - n2 : Nat) : Int) := by rw [IntWalk.i64_in _ (by omega)]; omega
  change ∀ W, Calls Tryz.prog 75 #[.string ⟨#[48]⟩, .int .i64 ((2 - n2 : Nat) : Int)] W fun e w' => e = .returned (.string ⟨(Lib.repeatL [48] (2 - n2)).toArray⟩) ∧ Below W.heap.size W w' at hRp
  obtain ⟨ws, hws⟩ : ∃ ws, Hid (ws = wordsB b) := ⟨_, Lib.hid rfl⟩
  have HW : Hid (wordsB b = [b.mark, itB b.size, itB b.count, cdB b.code] ++ b.ds.map itB) := Lib.hid rfl
  rw [← hws.out]
  rw [← hws.out] at HW
  have E := (Env.nil w).add w.heap.size 60 b.cs rfl
  rw [bcs] at E
  rw [vcs]
  generalize (⟨(Lib.repeatL [48] (2 - n2)).toArray⟩ : ByteArray) = RP at *
  generalize itB b.code = KB at *
  generalize cdB b.code = CB at *
  generalize hSB : itB b.size = SB at *
  generalize hTB : itB b.count = TB at *
  clear hws hadd hs hcd hc1 hc2 hft hC hsz hv hk hSB hTB hrs
  generalize b.mark = mk at *
  generalize b.size = sz at *
  generalize b.count = ct at *
  generalize b.code = cd at *
  generalize b.cap = dc at *
  generalize b.p = dp at *
  generalize hds : b.ds = ds at *
  clear hds hln
  obtain ⟨-, C0, C1, C2, C3, C4⟩ := s_b5 E
  go_enter Tryz.func43, Tryz.ntmps43
  go_upto_region 3 with (first
    | (go_at_call 74; (with_reducible refine (hIk _ (envb E)).mono ?_); rintro X wq ⟨rfl, hb⟩; replace E := E.on hb; clear hb; obtain ⟨-, C0, C1, C2, C3, C4⟩ := s_b5 E)
    | (go_at_call 75; (with_reducible refine (hRp _).mono ?_); rintro X wq ⟨rfl, hb⟩; replace E := E.on hb; clear hb; obtain ⟨-, C0, C1, C2, C3, C4⟩ := s_b5 E))
  refine wp_region_plan 9 [(0, true), (1, true), (2, true), (3, true), (5, true), (6, true), (8, true), (4, false), (7, false)] (fun W' => (Env w W' [⟨w.heap.size, 60, #[.string mk, .int .i64 sz, .int .i64 ct, .int .i64 cd, .slice dp ds.length dc]⟩] ∧ W'.cell? ⟨w.heap.size, 0, none⟩ = some (.string mk) ∧ W'.cell? ⟨w.heap.size, 1, none⟩ = some (.int .i64 sz) ∧ W'.cell? ⟨w.heap.size, 2, none⟩ = some (.int .i64 ct) ∧ W'.cell? ⟨w.heap.size, 3, none⟩ = some (.int .i64 cd) ∧ W'.cell? ⟨w.heap.size, 4, none⟩ = some (.slice dp ds.length dc))) (by kernel_rfl) (by kernel_rfl) (fun _ _ d _ _ h => by cases d <;> exact h) (s_b5 E.drw) ?_
  simp only [List.filterMap_cons, List.filterMap_nil, List.getElem?_cons_zero, List.getElem?_cons_succ, Option.map_some, List.drop_succ_cons, List.drop_zero]
  replace E := E.drw
  iterate 7 (first | (refine wpPlan_still (v := ?_) (Or.inl ⟨by rfl, ?_⟩) ?_; rotate_left; (focus (intro W hW; (try dsimp only at hW); go_split_ands; go_simp; try with_reducible rfl)); try simp only [Act.put, List.setIfInBounds_toArray, List.set_cons_zero, List.set_cons_succ]) | (refine wpPlan_still (Or.inr ⟨by rfl, rfl⟩) ?_; try simp only [Act.put, List.setIfInBounds_toArray, List.set_cons_zero, List.set_cons_succ]))
  refine wpPlan_only (fun K hK => ?_)
  try go_simp
  (go_at_call 74; (with_reducible refine (hIs _ (envb E)).mono ?_); rintro X wq ⟨rfl, hb⟩)
  replace E := E.on hb
  clear hb
  refine hK.out _ _ (s_b5 E) ?_
  clear hK K
  try simp only [Act.put, List.setIfInBounds_toArray, List.set_cons_zero, List.set_cons_succ]
  refine wpPlan_only (fun K hK => ?_)
  try go_simp
  (go_at_call 74; (with_reducible refine (hIc _ (envb E)).mono ?_); rintro X wq ⟨rfl, hb⟩)
  replace E := E.on hb
  clear hb
  refine hK.out _ _ (s_b5 E) ?_
  clear hK K
  try simp only [Act.put, List.setIfInBounds_toArray, List.set_cons_zero, List.set_cons_succ]
  refine wpPlan_end ?_
  replace C := E.cells
  simp [BC, CF] at C
  have hBq := envb E
  have C4q := (s_b5 E).2.2.2.2.2
  clear E C C0 C1 C2 C3 C4
  go_upto_region 4 with fail
  have HN := Has.new_ wq 9 #[.string mk, .string SB, .string TB, .string CB]
  have O0 : Own sb 9 1 w.heap.size (wq.alloc (.cells #[.string mk, .string SB, .string TB, .string CB] 9)) (.slice (some ⟨wq.heap.size, 0, none⟩) 4 4) ([mk, SB, TB, CB] ++ (ds.take 0).map itB) := own_lit HN rfl hBq.size (by decide)
  have B0 := al hBq (.cells #[.string mk, .string SB, .string TB, .string CB] 9)
  have HS := al1 wq (.cells #[.string mk, .string SB, .string TB, .string CB] 9)
  have D4 : (wq.alloc (.cells #[.string mk, .string SB, .string TB, .string CB] 9)).cell? ⟨w.heap.size, 4, none⟩ = some (.slice dp ds.length dc) := cell_later HS C4q
  clear HN HS C4q
  generalize (wq.alloc (.cells #[.string mk, .string SB, .string TB, .string CB] 9)) = wz at *
  generalize wq.heap.size = gz at *
  go_wp2
  go_loopw [4, 29] (fun v4 v29 wr => ∃ (k : Nat) (F : Value), v29 = .int .i64 k ∧ F = v4 ∧ k ≤ ds.length ∧ Own sb 9 1 w.heap.size wr F ([mk, SB, TB, CB] ++ (ds.take k).map itB) ∧ Below w.heap.size w wr) (fun _ v _ => ds.length - (intOf v).toNat)
  case atStart => exact ⟨0, _, rfl, rfl, Nat.zero_le _, O0, B0⟩
  case round =>
    clear O0 B0 D4
    obtain ⟨k, F, rfl, rfl, hk, hO, B⟩ := hrel
    by_cases hlt : k < ds.length
    · have g1 : decide ((k : Int) < (ds.length : Int)) = true := by simp [hlt]
      have W1 : IntKind.i64.wrap ((k : Int) + 1) = ((k + 1 : Nat) : Int) := by rw [IntWalk.i64_in _ (by omega)]; omega
      have p1 : (0 : Int) ≤ (k : Int) := by omega
      have p2 : (k : Int) < (ds.length : Int) := by omega
      obtain ⟨a, ea, hc⟩ := hDA.out k hlt
      subst ea
      replace hc := cell_later B hc
      have hI := fun W h => hId.out k hlt W h
      have hl : Hid ([mk, SB, TB, CB] ++ (ds.take (k + 1)).map itB = ([mk, SB, TB, CB] ++ (ds.take k).map itB) ++ [itB ds[k]]) := Lib.hid (by rw [List.take_succ_eq_append_getElem hlt, List.map_append, ← List.append_assoc]; rfl)
      have hlen : ([mk, SB, TB, CB] ++ (ds.take k).map itB).length = k + 4 := by simp; omega
      generalize ([mk, SB, TB, CB] ++ (ds.take k).map itB) = O at *
      generalize itB ds[k] = S at *
      generalize ds[k] = d at *
      have HB := Lib.hid B
      go_wp2_with (first
        | (go_at_call 74; (with_reducible refine (hI _ HB.out).mono ?_); rintro X wa ⟨rfl, hb⟩)
        | (at_builtin; refine wpList_append_own_at _ rfl _ _ 77 rfl w.heap.size 9 i0 _ 1 16 Tryz.underlying77 hi hz0 hz1 hz2 rfl (by decide) _ O.length (O.flatMap sb) rfl (own_on hO (belows hb (al1 _ _))) ⟨_, 0, none⟩ 1 1 [.string S] rfl rfl (cell_one_new _ _ _) (by simp [Value.oneCell']) (by unfold maxLen; omega) (by omega) (by have := HB.out.size; have := hb.size; simp; omega) ?_))
      intro v' w6 r1 r2 r3 r4
      have O7 : Own sb 9 1 w.heap.size w6 v' (O ++ [S]) := own_snoc (by rw [hlen]; exact r1)
      have ob := belows hb (al1 wa (.cells #[.string S] 9))
      have B7 : Below w.heap.size w w6 := (belows B ob).grown r2 (by have := HB.out.size; have := ob.size; omega) (fun q hq => (World.ownsRow.lt hO q hq).1)
      clear r1 r2 r3 r4 hO ob hb HB B hI hc
      go_wp2
      go_roundw
      · exact ⟨k + 1, _, rfl, rfl, hlt, (by rw [hl.out]; exact O7), B7⟩
      · simp [intOf]; omega
    · have g1 : decide ((k : Int) < (ds.length : Int)) = false := by simp; omega
      have HO := Lib.hid hO
      have HB := Lib.hid B
      have e : ds.take k = ds := List.take_of_length_le (by omega)
      clear hO B
      go_wp2
      go_ret
      have hO := HO.out
      rw [e, ← HW.out] at hO
      exact ⟨_, rfl, hO, HB.out⟩
end Go.Proofs.YthdafpbmmfelpaaGreatDoor
