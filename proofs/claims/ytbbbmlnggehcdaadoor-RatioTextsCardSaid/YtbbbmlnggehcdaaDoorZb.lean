/- The reference's number. The reference's Parse: what a fraction's text looks like. The reference's Parse: its walk. The reference's Parse: a walk. The reference's Parse: a walk. The reference's Parse: a walk. -/
import Derived.Test.YtbbbmlnggehcdaaDoorZc
import Derived.Test.YtbbbmlnggehcdaaDoorRv
namespace Go.Proofs.YtbbbmlnggehcdaaDoor
open Go.ChangeShapes Go.WideShapes Go.ChangeAt Go.RowKit Go.Shelf
set_option linter.unusedVariables false
set_option linter.unusedSimpArgs false

/-- What digits spell. -/
def dv (l : List UInt8) : Nat := l.foldl (fun a c => 10 * a + (c.toNat - 48)) 0
theorem dv_app (l : List UInt8) (c : UInt8) : dv (l ++ [c]) = 10 * dv l + (c.toNat - 48) := by unfold dv; rw [List.foldl_append]; rfl
theorem dv_dec (u : Nat) : dv (Lib.decDigits u) = u := by
  induction u using Nat.strongRecOn with
  | ind u ih =>
    rw [Lib.decDigits]
    split
    · rename_i h
      show 10 * 0 + ((UInt8.ofNat (48 + u)).toNat - 48) = u
      rw [dig_nat u h]; omega
    · rw [dv_app, ih (u / 10) (by omega), dig_nat _ (by omega)]; omega
theorem dv_lt : ∀ (k : Nat) (l : List UInt8), l.length = k → (∀ c ∈ l, 48 ≤ c.toNat ∧ c.toNat ≤ 57) → dv l < 10 ^ k
  | 0, l, h, _ => by rw [List.length_eq_zero_iff.1 h]; decide
  | k + 1, l, h, hc => by
    obtain ⟨m, c, rfl⟩ : ∃ m c, l = m ++ [c] := ⟨l.dropLast, l.getLast (by intro e; rw [e] at h; simp at h), (List.dropLast_concat_getLast _).symm⟩
    have := dv_lt k m (by simpa using h) fun c hc' => hc c (by simp [hc'])
    have := hc c (by simp)
    rw [dv_app]; rw [Nat.pow_succ]; omega
theorem p10 {k : Nat} (h : k ≤ 18) : 10 ^ k ≤ 1000000000000000000 := by
  have := Nat.pow_le_pow_right (show 1 ≤ 10 by omega) h
  simpa using this
theorem low63 (z : Int) (h0 : 0 ≤ z) (h1 : z < 18446744073709551616) : bits .and .u64 z 9223372036854775807 = z % 9223372036854775808 := by go_bits2
/-- What number is good for. -/
def NumOk (s : List UInt8) (x : Int) (b : Bool) : Prop := I64 x ∧ 0 ≤ x ∧ ∀ u ≤ 1152921504606846976, s = Lib.decDigits u → x = u ∧ b = true

/-- A digit. -/
def dgt (c : UInt8) : Bool := decide (48 ≤ c.toNat ∧ c.toNat ≤ 57)
/-- What number returns. -/
def numF (l : List UInt8) : Int × Bool :=
  if l.length < 1 ∨ 19 < l.length then (0, false) else if l.all dgt then ((dv l : Int) % 9223372036854775808, decide ((dv l : Int) ≤ 1152921504606846976)) else (0, false)
theorem numF_ok (l : List UInt8) : NumOk l (numF l).1 (numF l).2 := by
  unfold numF
  have no : (∀ u ≤ 1152921504606846976, l ≠ Lib.decDigits u) → NumOk l 0 false := fun h => ⟨by unfold I64; omega, Int.le_refl _, fun u hu e => absurd e (h u hu)⟩
  split
  · rename_i h
    refine no fun u hu e => ?_
    have h1 := congrArg List.length e
    rw [Lib.decDigits_length] at h1
    have h2 := nDigits_le 18 u (by omega)
    have h3 := List.length_pos_iff.2 (dec_ne u)
    rw [Lib.decDigits_length] at h3
    omega
  · split
    · refine ⟨by unfold I64; simp only; omega, by simp only; omega, fun u hu e => ?_⟩
      rw [e, dv_dec]
      exact ⟨by simp only; omega, by simp; omega⟩
    · rename_i h
      refine no fun u hu e => h ?_
      rw [e]
      exact List.all_eq_true.2 fun c hc => by simpa [dgt] using dec_mem u c hc
theorem numF_no {l : List UInt8} (h : l.length < 1 ∨ 19 < l.length) : numF l = (0, false) := by unfold numF; rw [if_pos h]
theorem numF_bad {l : List UInt8} {c : UInt8} (hc : c ∈ l) (h : dgt c = false) : numF l = (0, false) := by
  unfold numF
  split
  · rfl
  · rw [if_neg (fun k => by have := List.all_eq_true.1 k c hc; rw [h] at this; cases this)]
theorem numF_all {l : List UInt8} (h : ¬ (l.length < 1 ∨ 19 < l.length)) (hc : ∀ c ∈ l, 48 ≤ c.toNat ∧ c.toNat ≤ 57) : numF l = ((dv l : Int) % 9223372036854775808, decide ((dv l : Int) ≤ 1152921504606846976)) := by
  unfold numF
  rw [if_neg h, if_pos (List.all_eq_true.2 fun c h' => by simpa [dgt] using hc c h')]

set_option maxRecDepth 100000 in
set_option maxHeartbeats 4000000 in
theorem number_any (s : ByteArray) (w : World) {x : Int} {b : Bool} (hr : numF s.data.toList = (x, b)) :
    Calls Tryd.prog 62 #[.string s] w fun e w' => e = .returned (.tuple #[.int .i64 x, .bool b]) ∧ Below w.heap.size w w' := by
  have zs := Lib.hid (b_size s)
  by_cases hz : s.size < 1
  · have g1 : decide ((s.size : Int) < 1) = true := by simp; omega
    go_enter Tryd.func62, Tryd.ntmps62
    go_wp2
    go_ret2
    rw [numF_no (.inl (by rw [← zs.out]; omega))] at hr
    simp only [Prod.mk.injEq] at hr; obtain ⟨rfl, rfl⟩ := hr
    exact ⟨rfl, Below.refl _ _⟩
  · by_cases hz' : 19 < s.size
    · have g1 : decide ((s.size : Int) < 1) = false := by simp; omega
      have g2 : decide ((19 : Int) < (s.size : Int)) = true := by simp; omega
      go_enter Tryd.func62, Tryd.ntmps62
      go_wp2
      go_ret2
      rw [numF_no (.inr (by rw [← zs.out]; omega))] at hr
      simp only [Prod.mk.injEq] at hr; obtain ⟨rfl, rfl⟩ := hr
      exact ⟨rfl, Below.refl _ _⟩
    · have g1 : decide ((s.size : Int) < 1) = false := by simp; omega
      have g2 : decide ((19 : Int) < (s.size : Int)) = false := by simp; omega
      replace hr := Lib.hid hr
      go_enter Tryd.func62, Tryd.ntmps62
      go_wp2
      go_loopw [4, 5] (fun a b wr => ∃ (m i : Nat), a = .int .u64 m ∧ b = .int .i64 i ∧ i ≤ s.size ∧ m < 10 ^ i ∧ Hid (m = dv (s.data.toList.take i)) ∧ Hid (∀ c ∈ s.data.toList.take i, 48 ≤ c.toNat ∧ c.toNat ≤ 57) ∧ Below w.heap.size w wr) (fun _ b _ => s.size - (intOf b).toNat)
      case atStart => exact ⟨0, 0, rfl, rfl, Nat.zero_le _, by simp, Lib.hid (by simp [dv]), Lib.hid (by simp), Below.refl _ _⟩
      case round =>
        obtain ⟨m, i, rfl, rfl, hi, hm, hG, hc, hB⟩ := hrel
        by_cases hlt : i < s.size
        · have g : decide ((i : Int) < (s.size : Int)) = true := by simp [hlt]
          have p := p10 (k := i) (by omega)
          have hml : m < 1000000000000000000 := by omega
          have hm' := Lib.hid hm
          clear p hm
          have W1 : IntKind.i64.wrap ((i : Int) + 1) = ((i + 1 : Nat) : Int) := by rw [IntWalk.i64_in _ (by omega)]; omega
          have gi : s.data.toList[i]? = some s[i] := by
            rw [Array.getElem?_toList]; exact Array.getElem?_eq_getElem hlt
          have gm : s[i] ∈ s.data.toList := List.mem_of_getElem? gi
          have tk : s.data.toList.take (i + 1) = s.data.toList.take i ++ [s[i]] := by rw [List.take_add_one, gi]; rfl
          by_cases c1 : s[i].toNat < 48
          · have h1 : decide ((s[i].toNat : Int) < 48) = true := by simp; omega
            go_wp2
            go_ret2
            have HR := hr.out
            rw [numF_bad gm (by unfold dgt; exact decide_eq_false (by omega))] at HR
            simp only [Prod.mk.injEq] at HR
            obtain ⟨rfl, rfl⟩ := HR
            exact ⟨rfl, hB⟩
          · by_cases c2 : 57 < s[i].toNat
            · have h1 : decide ((s[i].toNat : Int) < 48) = false := by simp; omega
              have h2 : decide ((57 : Int) < (s[i].toNat : Int)) = true := by simp; omega
              go_wp2
              go_ret2
              have HR := hr.out
              rw [numF_bad gm (by unfold dgt; exact decide_eq_false (by omega))] at HR
              simp only [Prod.mk.injEq] at HR
              obtain ⟨rfl, rfl⟩ := HR
              exact ⟨rfl, hB⟩
            · have h1 : decide ((s[i].toNat : Int) < 48) = false := by simp; omega
              have h2 : decide ((57 : Int) < (s[i].toNat : Int)) = false := by simp; omega
              have W2 : IntKind.u64.wrap (10 * (m : Int)) = 10 * (m : Int) := by rw [IntKind.wrap_u64]; omega
              have W3 : IntKind.u8.wrap ((s[i].toNat : Int) - 48) = (s[i].toNat : Int) - 48 := by rw [IntKind.wrap_u8]; omega
              have W4 : IntKind.u64.wrap ((s[i].toNat : Int) - 48) = (s[i].toNat : Int) - 48 := by rw [IntKind.wrap_u64]; omega
              have W5 : IntKind.u64.wrap (10 * (m : Int) + ((s[i].toNat : Int) - 48)) = ((10 * m + (s[i].toNat - 48) : Nat) : Int) := by rw [IntKind.wrap_u64]; omega
              go_wp2
              refine ⟨⟨10 * m + (s[i].toNat - 48), i + 1, rfl, rfl, hlt, ?_, Lib.hid ?_, Lib.hid ?_, hB⟩, by simp [intOf]; omega⟩
              · have := hm'.out; rw [Nat.pow_succ]; omega
              · rw [tk, dv_app, ← hG.out]
              · rw [tk]
                intro c hh
                rcases List.mem_append.1 hh with hh | hh
                · exact hc.out c hh
                · rw [List.mem_singleton.1 hh]; omega
        · have g : decide ((i : Int) < (s.size : Int)) = false := by simp; omega
          have e := hG.out
          rw [List.take_of_length_le (by rw [← b_size]; omega)] at e
          have hb : m < 18446744073709551616 := by
            have := Nat.pow_le_pow_right (show 1 ≤ 10 by omega) (show i ≤ 19 by omega)
            have h9 : (10 : Nat) ^ 19 = 10000000000000000000 := by decide
            omega
          have L := low63 (m : Int) (by omega) (by omega)
          have W1 : IntKind.i64.wrap ((m : Int) % 9223372036854775808) = (m : Int) % 9223372036854775808 := IntWalk.i64_in _ (by omega)
          clear hm hG
          replace e := Lib.hid e
          go_wp2
          go_ret2
          have e := e.out
          have hcc := hc.out
          rw [List.take_of_length_le (by rw [← b_size]; omega)] at hcc
          have HR := hr.out
          rw [numF_all (by rw [← zs.out]; omega) hcc, ← e] at HR
          simp only [Prod.mk.injEq] at HR
          refine ⟨?_, hB⟩
          rw [← HR.1, ← HR.2]
          first | rfl | simp [L, W1]
end Go.Proofs.YtbbbmlnggehcdaaDoor
namespace Go.Proofs.YtbbbmlnggehcdaaDoor
open Go.ChangeShapes Go.WideShapes Go.ChangeAt Go.RowKit Go.Shelf
set_option linter.unusedVariables false
set_option linter.unusedSimpArgs false

/-- The place of the first stroke, or the end, seen as far as i. -/
def At (l : List UInt8) (i k : Nat) : Prop := (k = l.length ∧ ∀ j < i, l[j]? ≠ some 47) ∨ (k < i ∧ l[k]? = some 47 ∧ ∀ j < k, l[j]? ≠ some 47)
theorem At.step1 {l : List UInt8} {i : Nat} (h : At l i l.length) (c : l[i]? = some 47) (hi : i < l.length) : At l (i + 1) i := by
  rcases h with ⟨_, h⟩ | ⟨h1, h2, _⟩
  · exact .inr ⟨by omega, c, h⟩
  · rw [List.getElem?_eq_none (Nat.le_refl _)] at h2; cases h2
theorem At.step2 {l : List UInt8} {i k : Nat} (h : At l i k) (c : l[i]? ≠ some 47 ∨ k ≠ l.length) : At l (i + 1) k := by
  rcases h with ⟨h0, h⟩ | ⟨h1, h2, h3⟩
  · refine .inl ⟨h0, fun j hj => ?_⟩
    rcases c with c | c
    · rcases Nat.lt_succ_iff_lt_or_eq.1 hj with h' | rfl
      · exact h j h'
      · exact c
    · exact absurd h0 c
  · exact .inr ⟨by omega, h2, h3⟩
theorem At.of {l m : List UInt8} {k : Nat} (h : At (l ++ 47 :: m) (l ++ 47 :: m).length k) (hl : ∀ c ∈ l, c ≠ 47) : k = l.length := by
  have hg : (l ++ 47 :: m)[l.length]? = some 47 := by simp
  rcases h with ⟨_, h⟩ | ⟨_, h2, h3⟩
  · exact absurd hg (h l.length (by simp))
  · rcases Nat.lt_trichotomy k l.length with c | c | c
    · rw [List.getElem?_append_left c] at h2
      exact absurd rfl (hl _ (List.mem_of_getElem? h2))
    · exact c
    · exact absurd hg (h3 _ c)
theorem At.none {l : List UInt8} {k : Nat} (h : At l l.length k) (hl : ∀ c ∈ l, c ≠ 47) : k = l.length := by
  rcases h with ⟨h, _⟩ | ⟨_, h2, _⟩
  · exact h
  · exact absurd rfl (hl _ (List.mem_of_getElem? h2))
theorem dec47 (u : Nat) : ∀ c ∈ Lib.decDigits u, c ≠ 47 := fun c hc e => by
  have := dec_mem u c hc; subst e; revert this; decide
theorem dec45 (u : Nat) : (Lib.decDigits u).head? ≠ some 45 := fun e => by
  have := dec_mem u 45 (List.mem_of_head? e); revert this; decide
def tail0 (d : Int) : List UInt8 := if d = 1 then [] else 47 :: Lib.decDigits d.natAbs
theorem text_shape {n d : Int} (v : V n d) : textL n d = (if n < 0 then [45] else []) ++ (Lib.decDigits n.natAbs ++ tail0 d) := by
  obtain ⟨d1, _, _, _, _⟩ := v
  unfold textL Lib.itoa tail0
  rw [if_neg (show ¬ d < 0 by omega), show d.toNat = d.natAbs by omega]
  by_cases hn : n < 0
  · by_cases hd : d = 1 <;> simp [hd, hn]
  · have hq : n.toNat = n.natAbs := by omega
    by_cases hd : d = 1 <;> simp [hd, hn, hq]
/-- What the reference finds in a text of a fraction. -/
theorem shape {l t : List UInt8} {n d : Int} {ng : Bool} {k : Nat} (v : V n d) (e : textL n d = l) (ht : (ng = true ∧ l = 45 :: t) ∨ (ng = false ∧ l = t ∧ l.head? ≠ some 45)) (hk : At t t.length k) :
    ng = decide (n < 0) ∧ k = (Lib.decDigits n.natAbs).length ∧ t.take k = Lib.decDigits n.natAbs ∧ (k < t.length ↔ d ≠ 1) ∧ (d ≠ 1 → t.drop (k + 1) = Lib.decDigits d.natAbs) := by
  rw [text_shape v] at e
  have et : ng = decide (n < 0) ∧ t = Lib.decDigits n.natAbs ++ tail0 d := by
    rcases ht with ⟨rfl, h⟩ | ⟨rfl, h, h'⟩
    · by_cases hn : n < 0
      · rw [if_pos hn, h] at e
        simp at e; exact ⟨by simp [hn], e.symm⟩
      · rw [if_neg hn, h] at e
        have hh := congrArg List.head? e
        cases hc : Lib.decDigits n.natAbs with
        | nil => exact absurd hc (dec_ne _)
        | cons c r =>
          rw [hc] at hh
          simp at hh
          exact absurd (show (Lib.decDigits n.natAbs).head? = some 45 by rw [hc, hh]; rfl) (dec45 _)
    · by_cases hn : n < 0
      · rw [if_pos hn] at e
        rw [← e] at h'; simp at h'
      · rw [if_neg hn, List.nil_append] at e
        exact ⟨by simp [hn], by rw [← h, e]⟩
  obtain ⟨e1, rfl⟩ := et
  refine ⟨e1, ?_⟩
  unfold tail0 at hk ⊢
  by_cases hd : d = 1
  · rw [if_pos hd, List.append_nil] at hk ⊢
    obtain rfl := At.none hk (dec47 _)
    exact ⟨rfl, by simp, by simp [hd], fun h => absurd hd h⟩
  · rw [if_neg hd] at hk ⊢
    obtain rfl := At.of hk (dec47 _)
    exact ⟨rfl, by simp, by simp [hd], fun _ => by simp⟩
end Go.Proofs.YtbbbmlnggehcdaaDoor
namespace Go.Proofs.YtbbbmlnggehcdaaDoor
open Go.ChangeShapes Go.WideShapes Go.ChangeAt Go.RowKit Go.Shelf
set_option linter.unusedVariables false
set_option linter.unusedSimpArgs false

theorem at_get (T : ByteArray) (i : Nat) (h : i < T.size) : T.data.toList[i]? = some T[i] := by
  rw [Array.getElem?_toList]; exact Array.getElem?_eq_getElem h
theorem ext_take (T : ByteArray) (k : Nat) : (T.extract 0 k).data.toList = T.data.toList.take k := by
  simp [ByteArray.data_extract]
theorem ext_drop (T : ByteArray) (k : Nat) : (T.extract k T.size).data.toList = T.data.toList.drop k := by
  rw [Lib.extract_data]; exact List.take_of_length_le (by rw [List.length_drop, ← b_size]; omega)
theorem cons_of (s : ByteArray) (h : 0 < s.size) (e : s[0] = 45) : s.data.toList = 45 :: s.data.toList.drop 1 := by
  have g := at_get s 0 h
  rw [e] at g
  cases hl : s.data.toList with
  | nil => rw [hl] at g; simp at g
  | cons c l => rw [hl] at g; simp at g; rw [g]; rfl

theorem fin_no {s : List UInt8} {x q : Int} {b : Bool} (hr : parseR s = (x, q, if b then 0 else 7)) (hno : ∀ n d, V n d → textL n d = s → False) : x = 0 ∧ q = 0 ∧ b = false := by
  rcases parse_is hr with ⟨_, v, e⟩ | ⟨h1, h2, h3⟩
  · exact absurd (hno _ _ v e) (fun h => h)
  · cases b
    · exact ⟨h1, h2, rfl⟩
    · simp at h3
theorem fin_yes {s : List UInt8} {x q n d : Int} {b : Bool} (hr : parseR s = (x, q, if b then 0 else 7)) (v : V n d) (e : textL n d = s) : n = x ∧ d = q ∧ b = true := by
  rw [← e, parse_text v] at hr
  simp only [Prod.mk.injEq] at hr
  cases b
  · simp at hr
  · exact ⟨hr.1, hr.2.1, rfl⟩
theorem env_s1 {w0 w : World} {g : Nat} {n d : Int} (E : Env w0 w [⟨g, n, d⟩, ⟨w0.heap.size, 0, 0⟩]) (hg : w0.heap.size < g) (v : Int) : Env w0 (w.setCell ⟨g, 1, none⟩ (.int .i64 v)) [⟨g, n, v⟩, ⟨w0.heap.size, 0, 0⟩] :=
  ⟨E.1.setCell (by simp; omega) _, E.2.1.put_ 1 _, E.2.2.1.apart_ (by simp; omega) _, trivial⟩
theorem env_s0 {w0 w : World} {g : Nat} {n d : Int} (E : Env w0 w [⟨g, n, d⟩, ⟨w0.heap.size, 0, 0⟩]) (hg : w0.heap.size < g) (v : Int) : Env w0 (w.setCell ⟨g, 0, none⟩ (.int .i64 v)) [⟨g, v, d⟩, ⟨w0.heap.size, 0, 0⟩] :=
  ⟨E.1.setCell (by simp; omega) _, E.2.1.put_ 0 _, E.2.2.1.apart_ (by simp; omega) _, trivial⟩
end Go.Proofs.YtbbbmlnggehcdaaDoor
namespace Go.Proofs.YtbbbmlnggehcdaaDoor
open Go.ChangeShapes Go.WideShapes Go.ChangeAt Go.RowKit Go.Shelf
set_option linter.unusedVariables false
set_option linter.unusedSimpArgs false

set_option maxRecDepth 100000 in
set_option maxHeartbeats 8000000 in
theorem rp_plain (s : ByteArray) (w : World) (hs : s.size ≤ 1000) (hV : Vars w) {x q : Int} {b : Bool} (hr : parseR s.data.toList = (x, q, if b then 0 else 7)) (z0 : 0 < s.size) (h45 : s[0] ≠ 45) :
    Calls Tryd.prog 37 #[.string s] w fun e w' => e = .returned (.tuple #[.agg #[.int .i64 x, .int .i64 q], .bool b]) ∧ Below w.heap.size w w' := by
  have E0 := env_one w 0 0
  have HR := Lib.hid hr
  clear hr
  have g1 : decide (0 < (s.size : Int)) = true := by simp; omega
  have g2 : ((s[0].toNat : Int) == 45) = false := by
    simp; intro c; exact h45 (UInt8.toNat_inj.1 (by rw [show (45 : UInt8).toNat = 45 from rfl]; omega))
  go_enter Tryd.func37, Tryd.ntmps37
  go_wp2

  go_loopw [6, 7] (fun a c wr => ∃ (i k : Nat), c = .int .i64 i ∧ a = .int .i64 k ∧ i ≤ s.size ∧ k ≤ s.size ∧ Hid (At s.data.toList i k) ∧ Env w wr [⟨w.heap.size, 0, 0⟩]) (fun _ c _ => s.size - (intOf c).toNat)
  case atStart => exact ⟨0, s.size, rfl, rfl, Nat.zero_le _, Nat.le_refl _, Lib.hid (.inl ⟨b_size s, fun j hj => by omega⟩), E0⟩
  case round =>
    clear E0
    obtain ⟨i, k, rfl, rfl, hi, hkl, hA, E⟩ := hrel
    have zT := Lib.hid (b_size s)
    by_cases hlt : i < s.size
    · have g : decide ((i : Int) < (s.size : Int)) = true := by simp [hlt]
      have W1 : IntKind.i64.wrap ((i : Int) + 1) = ((i + 1 : Nat) : Int) := by rw [IntWalk.i64_in _ (by omega)]; omega
      have gt := at_get s i hlt
      by_cases c47 : s[i] = 47
      · have g2 : ((s[i].toNat : Int) == 47) = true := by rw [c47]; rfl
        rw [c47] at gt
        by_cases hk : k = s.size
        · have g3 : ((k : Int) == (s.size : Int)) = true := by simp [hk]
          have nx : At s.data.toList (i + 1) i := At.step1 (by rw [← zT.out, ← hk]; exact hA.out) gt (by have := zT.out; omega)
          subst hk
          go_wp2
          exact ⟨⟨i + 1, i, rfl, rfl, hlt, by omega, Lib.hid nx, E⟩, by simp [intOf]; omega⟩
        · have g3 : ((k : Int) == (s.size : Int)) = false := by simp; omega
          have nx := At.step2 hA.out (.inr (by have := zT.out; omega : k ≠ s.data.toList.length))
          go_wp2
          exact ⟨⟨i + 1, k, rfl, rfl, hlt, hkl, Lib.hid nx, E⟩, by simp [intOf]; omega⟩
      · have g2 : ((s[i].toNat : Int) == 47) = false := by
          simp; intro c; exact c47 (UInt8.toNat_inj.1 (by rw [show (47 : UInt8).toNat = 47 from rfl]; omega))
        have nx := At.step2 hA.out (.inl (by rw [gt]; simpa using c47))
        go_wp2
        exact ⟨⟨i + 1, k, rfl, rfl, hlt, hkl, Lib.hid nx, E⟩, by simp [intOf]; omega⟩
    · have g : decide ((i : Int) < (s.size : Int)) = false := by simp; omega
      obtain rfl : i = s.size := by omega
      have hS : Hid (∀ n d, V n d → textL n d = s.data.toList → false = decide (n < 0) ∧ k = (Lib.decDigits n.natAbs).length ∧ s.data.toList.take k = Lib.decDigits n.natAbs ∧ (k < s.data.toList.length ↔ d ≠ 1) ∧ (d ≠ 1 → s.data.toList.drop (k + 1) = Lib.decDigits d.natAbs)) := Lib.hid fun n d v e => shape v e (.inr ⟨rfl, rfl, by rw [List.head?_eq_getElem?, at_get s 0 z0]; simpa using h45⟩) (by rw [← zT.out]; exact hA.out)
      clear hA
      by_cases hk : k < s.size
      · have g3 : decide ((k : Int) < (s.size : Int)) = true := by simp [hk]
        obtain ⟨x1, b1, hn1⟩ : ∃ x1 b1, numF (s.extract 0 k).data.toList = (x1, b1) := ⟨_, _, rfl⟩
        obtain ⟨x2, b2, hn2⟩ : ∃ x2 b2, numF (s.extract (k + 1) s.size).data.toList = (x2, b2) := ⟨_, _, rfl⟩
        have O1 := numF_ok (s.extract 0 k).data.toList
        have O2 := numF_ok (s.extract (k + 1) s.size).data.toList
        rw [hn1, ext_take] at O1
        rw [hn2, ext_drop] at O2
        obtain ⟨⟨i1, i2⟩, i3, O1⟩ := O1
        obtain ⟨⟨j1, j2⟩, j3, O2⟩ := O2
        have hN1 := fun W => number_any (s.extract 0 k) W hn1
        have hN2 := fun W => number_any (s.extract (k + 1) s.size) W hn2
        have W3 : IntKind.i64.wrap ((k : Int) + 1) = ((k + 1 : Nat) : Int) := by rw [IntWalk.i64_in _ (by omega)]; omega
        have C := E.cells
        simp only [BC] at C
        have F1 := Has.open_ E.2.1 0
        have F2 := Has.open_ E.2.1 1
        clear hn1 hn2
        have hK : Hid (∀ n d, V n d → textL n d = s.data.toList → b1 = true ∧ b2 = true ∧ n = x1 ∧ d = x2) := Lib.hid fun n d v e => by
          obtain ⟨k1, k2, k3, k4, k5⟩ := hS.out n d v e
          have hd : d ≠ 1 := k4.1 (by rw [← zT.out]; exact hk)
          have vv := v
          obtain ⟨v1, v2, v3, v4, _⟩ := vv
          obtain ⟨o1, o2⟩ := O1 n.natAbs (by omega) k3
          obtain ⟨p1, p2⟩ := O2 d.natAbs (by omega) (k5 hd)
          refine ⟨o2, p2, ?_, by omega⟩
          have := of_decide_eq_false k1.symm
          omega
        clear hS
        cases b1
        · obtain ⟨rfl, rfl, rfl⟩ := fin_no HR.out fun n d v e => by have := hK.out n d v e; simp at this
          clear HR hK
          go_wp2_with (first | (go_at_call 62; first | ((with_reducible refine (hN1 _).mono ?_); rintro e w1 ⟨rfl, hb⟩; (first | (with_reducible replace E := (E.add _ _).on hb) | (with_reducible replace E := E.on hb)); (try (have gg : w.heap.size < w1.heap.size := E.2.1.size_; have gn : w.heap.size ≠ w1.heap.size := Nat.ne_of_lt gg; have gn' : w1.heap.size ≠ w.heap.size := fun h => gn h.symm)); clear C; have C := E.cells; simp only [BC] at C; clear hb; (try clear F1 F2 F3 F4); have F1 := Has.open_ E.2.1 0; have F2 := Has.open_ E.2.1 1; (try have F3 := Has.open_ E.2.2.1 0); (try have F4 := Has.open_ E.2.2.1 1)) | ((with_reducible refine (hN2 _).mono ?_); rintro e w1 ⟨rfl, hb⟩; (first | (with_reducible replace E := (E.add _ _).on hb) | (with_reducible replace E := E.on hb)); (try (have gg : w.heap.size < w1.heap.size := E.2.1.size_; have gn : w.heap.size ≠ w1.heap.size := Nat.ne_of_lt gg; have gn' : w1.heap.size ≠ w.heap.size := fun h => gn h.symm)); clear C; have C := E.cells; simp only [BC] at C; clear hb; (try clear F1 F2 F3 F4); have F1 := Has.open_ E.2.1 0; have F2 := Has.open_ E.2.1 1; (try have F3 := Has.open_ E.2.2.1 0); (try have F4 := Has.open_ E.2.2.1 1))))
          refine bodyPost_ret (v := .tuple #[.agg #[.int .i64 (0), .int .i64 (0)], .bool false]) (by simp [results, Tryd.results37, go_sem, C]) rfl ⟨rfl, ?_⟩
          (repeat' (first | exact E.1 | with_reducible refine al ?_ _ | with_reducible refine Below.setCell ?_ ?_ _))
          all_goals first | exact Nat.le_refl _ | (simp; done) | (simp; omega) | omega
        · cases b2
          · obtain ⟨rfl, rfl, rfl⟩ := fin_no HR.out fun n d v e => by have := hK.out n d v e; simp at this
            clear HR hK
            go_wp2_with (first | (go_at_call 62; first | ((with_reducible refine (hN1 _).mono ?_); rintro e w1 ⟨rfl, hb⟩; (first | (with_reducible replace E := (E.add _ _).on hb) | (with_reducible replace E := E.on hb)); (try (have gg : w.heap.size < w1.heap.size := E.2.1.size_; have gn : w.heap.size ≠ w1.heap.size := Nat.ne_of_lt gg; have gn' : w1.heap.size ≠ w.heap.size := fun h => gn h.symm)); clear C; have C := E.cells; simp only [BC] at C; clear hb; (try clear F1 F2 F3 F4); have F1 := Has.open_ E.2.1 0; have F2 := Has.open_ E.2.1 1; (try have F3 := Has.open_ E.2.2.1 0); (try have F4 := Has.open_ E.2.2.1 1)) | ((with_reducible refine (hN2 _).mono ?_); rintro e w1 ⟨rfl, hb⟩; (first | (with_reducible replace E := (E.add _ _).on hb) | (with_reducible replace E := E.on hb)); (try (have gg : w.heap.size < w1.heap.size := E.2.1.size_; have gn : w.heap.size ≠ w1.heap.size := Nat.ne_of_lt gg; have gn' : w1.heap.size ≠ w.heap.size := fun h => gn h.symm)); clear C; have C := E.cells; simp only [BC] at C; clear hb; (try clear F1 F2 F3 F4); have F1 := Has.open_ E.2.1 0; have F2 := Has.open_ E.2.1 1; (try have F3 := Has.open_ E.2.2.1 0); (try have F4 := Has.open_ E.2.2.1 1))))
            refine bodyPost_ret (v := .tuple #[.agg #[.int .i64 (0), .int .i64 (0)], .bool false]) (by simp [results, Tryd.results37, go_sem, C]) rfl ⟨rfl, ?_⟩
            (repeat' (first | exact E.1 | with_reducible refine al ?_ _ | with_reducible refine Below.setCell ?_ ?_ _))
            all_goals first | exact Nat.le_refl _ | (simp; done) | (simp; omega) | omega
          · cases hv : vB (x1) (x2)
            · obtain ⟨rfl, rfl, rfl⟩ := fin_no HR.out fun n d v e => by
                obtain ⟨-, -, e1, e2⟩ := hK.out n d v e
                rw [e1, e2] at v; rw [vB_t.2 v] at hv; cases hv
              have hVal := fun W => rvalid_any (x1) (x2) W (by omega) (by omega) (by omega) (by omega)
              rw [hv] at hVal
              clear HR hK
              go_wp2_with (first | (go_at_call 62; first | ((with_reducible refine (hN1 _).mono ?_); rintro e w1 ⟨rfl, hb⟩; (first | (with_reducible replace E := (E.add _ _).on hb) | (with_reducible replace E := E.on hb)); (try (have gg : w.heap.size < w1.heap.size := E.2.1.size_; have gn : w.heap.size ≠ w1.heap.size := Nat.ne_of_lt gg; have gn' : w1.heap.size ≠ w.heap.size := fun h => gn h.symm)); clear C; have C := E.cells; simp only [BC] at C; clear hb; (try clear F1 F2 F3 F4); have F1 := Has.open_ E.2.1 0; have F2 := Has.open_ E.2.1 1; (try have F3 := Has.open_ E.2.2.1 0); (try have F4 := Has.open_ E.2.2.1 1)) | ((with_reducible refine (hN2 _).mono ?_); rintro e w1 ⟨rfl, hb⟩; (first | (with_reducible replace E := (E.add _ _).on hb) | (with_reducible replace E := E.on hb)); (try (have gg : w.heap.size < w1.heap.size := E.2.1.size_; have gn : w.heap.size ≠ w1.heap.size := Nat.ne_of_lt gg; have gn' : w1.heap.size ≠ w.heap.size := fun h => gn h.symm)); clear C; have C := E.cells; simp only [BC] at C; clear hb; (try clear F1 F2 F3 F4); have F1 := Has.open_ E.2.1 0; have F2 := Has.open_ E.2.1 1; (try have F3 := Has.open_ E.2.2.1 0); (try have F4 := Has.open_ E.2.2.1 1))) | (go_at_call 18; (with_reducible refine (hVal _).mono ?_); rintro e w1 ⟨rfl, hb⟩; (first | (with_reducible replace E := E.on hb) | (with_reducible replace E := (E.add _ _).on hb) | (with_reducible replace E := (env_s1 E gg _).on hb) | (with_reducible replace E := (env_s0 (env_s1 E gg _) gg _).on hb)); clear C; have C := E.cells; simp only [BC] at C; clear hb; (try clear F1 F2 F3 F4); have F1 := Has.open_ E.2.1 0; have F2 := Has.open_ E.2.1 1; (try have F3 := Has.open_ E.2.2.1 0); (try have F4 := Has.open_ E.2.2.1 1)))
              refine bodyPost_ret (v := .tuple #[.agg #[.int .i64 (0), .int .i64 (0)], .bool false]) (by simp [results, Tryd.results37, go_sem, C]) rfl ⟨rfl, ?_⟩
              (repeat' (first | exact E.1 | with_reducible refine al ?_ _ | with_reducible refine Below.setCell ?_ ?_ _))
              all_goals first | exact Nat.le_refl _ | (simp; done) | (simp; omega) | omega
            · have v := vB_t.1 hv
              have hVal := fun W => rvalid_any (x1) (x2) W (by omega) (by omega) (by omega) (by omega)
              rw [hv] at hVal
              have hTxt := fun W => rtext_ok (x1) (x2) W v
              by_cases et : textL (x1) (x2) = s.data.toList
              · obtain ⟨rfl, rfl, rfl⟩ : x1 = x ∧ x2 = q ∧ b = true := fin_yes HR.out v et
                have es : (ByteArray.mk (textL (x1) (x2)).toArray) = s := by rw [et]
                rw [es] at hTxt
                clear HR hK v hv et es
                go_wp2_with (first | (go_at_call 62; first | ((with_reducible refine (hN1 _).mono ?_); rintro e w1 ⟨rfl, hb⟩; (first | (with_reducible replace E := (E.add _ _).on hb) | (with_reducible replace E := E.on hb)); (try (have gg : w.heap.size < w1.heap.size := E.2.1.size_; have gn : w.heap.size ≠ w1.heap.size := Nat.ne_of_lt gg; have gn' : w1.heap.size ≠ w.heap.size := fun h => gn h.symm)); clear C; have C := E.cells; simp only [BC] at C; clear hb; (try clear F1 F2 F3 F4); have F1 := Has.open_ E.2.1 0; have F2 := Has.open_ E.2.1 1; (try have F3 := Has.open_ E.2.2.1 0); (try have F4 := Has.open_ E.2.2.1 1)) | ((with_reducible refine (hN2 _).mono ?_); rintro e w1 ⟨rfl, hb⟩; (first | (with_reducible replace E := (E.add _ _).on hb) | (with_reducible replace E := E.on hb)); (try (have gg : w.heap.size < w1.heap.size := E.2.1.size_; have gn : w.heap.size ≠ w1.heap.size := Nat.ne_of_lt gg; have gn' : w1.heap.size ≠ w.heap.size := fun h => gn h.symm)); clear C; have C := E.cells; simp only [BC] at C; clear hb; (try clear F1 F2 F3 F4); have F1 := Has.open_ E.2.1 0; have F2 := Has.open_ E.2.1 1; (try have F3 := Has.open_ E.2.2.1 0); (try have F4 := Has.open_ E.2.2.1 1))) | (go_at_call 18; (with_reducible refine (hVal _).mono ?_); rintro e w1 ⟨rfl, hb⟩; (first | (with_reducible replace E := E.on hb) | (with_reducible replace E := (E.add _ _).on hb) | (with_reducible replace E := (env_s1 E gg _).on hb) | (with_reducible replace E := (env_s0 (env_s1 E gg _) gg _).on hb)); clear C; have C := E.cells; simp only [BC] at C; clear hb; (try clear F1 F2 F3 F4); have F1 := Has.open_ E.2.1 0; have F2 := Has.open_ E.2.1 1; (try have F3 := Has.open_ E.2.2.1 0); (try have F4 := Has.open_ E.2.2.1 1)) | (go_at_call 35; (with_reducible refine (hTxt _).mono ?_); rintro e w1 ⟨rfl, hb⟩; replace E := E.on hb; clear C; have C := E.cells; simp only [BC] at C; clear hb; (try clear F1 F2 F3 F4); have F1 := Has.open_ E.2.1 0; have F2 := Has.open_ E.2.1 1; (try have F3 := Has.open_ E.2.2.1 0); (try have F4 := Has.open_ E.2.2.1 1)))
                refine bodyPost_ret (v := .tuple #[.agg #[.int .i64 (x1), .int .i64 (x2)], .bool true]) (by simp [results, Tryd.results37, go_sem, C]) rfl ⟨rfl, ?_⟩
                (repeat' (first | exact E.1 | with_reducible refine al ?_ _ | with_reducible refine Below.setCell ?_ ?_ _))
                all_goals first | exact Nat.le_refl _ | (simp; done) | (simp; omega) | omega
              · obtain ⟨rfl, rfl, rfl⟩ := fin_no HR.out fun n d v e => by
                  obtain ⟨-, -, e1, e2⟩ := hK.out n d v e
                  rw [e1, e2] at e; exact et e
                have en : (textL (x1) (x2) == s.toList) = false := by rw [Lib.toList_data]; simpa using et
                clear HR hK v hv et
                go_wp2_with (first | (go_at_call 62; first | ((with_reducible refine (hN1 _).mono ?_); rintro e w1 ⟨rfl, hb⟩; (first | (with_reducible replace E := (E.add _ _).on hb) | (with_reducible replace E := E.on hb)); (try (have gg : w.heap.size < w1.heap.size := E.2.1.size_; have gn : w.heap.size ≠ w1.heap.size := Nat.ne_of_lt gg; have gn' : w1.heap.size ≠ w.heap.size := fun h => gn h.symm)); clear C; have C := E.cells; simp only [BC] at C; clear hb; (try clear F1 F2 F3 F4); have F1 := Has.open_ E.2.1 0; have F2 := Has.open_ E.2.1 1; (try have F3 := Has.open_ E.2.2.1 0); (try have F4 := Has.open_ E.2.2.1 1)) | ((with_reducible refine (hN2 _).mono ?_); rintro e w1 ⟨rfl, hb⟩; (first | (with_reducible replace E := (E.add _ _).on hb) | (with_reducible replace E := E.on hb)); (try (have gg : w.heap.size < w1.heap.size := E.2.1.size_; have gn : w.heap.size ≠ w1.heap.size := Nat.ne_of_lt gg; have gn' : w1.heap.size ≠ w.heap.size := fun h => gn h.symm)); clear C; have C := E.cells; simp only [BC] at C; clear hb; (try clear F1 F2 F3 F4); have F1 := Has.open_ E.2.1 0; have F2 := Has.open_ E.2.1 1; (try have F3 := Has.open_ E.2.2.1 0); (try have F4 := Has.open_ E.2.2.1 1))) | (go_at_call 18; (with_reducible refine (hVal _).mono ?_); rintro e w1 ⟨rfl, hb⟩; (first | (with_reducible replace E := E.on hb) | (with_reducible replace E := (E.add _ _).on hb) | (with_reducible replace E := (env_s1 E gg _).on hb) | (with_reducible replace E := (env_s0 (env_s1 E gg _) gg _).on hb)); clear C; have C := E.cells; simp only [BC] at C; clear hb; (try clear F1 F2 F3 F4); have F1 := Has.open_ E.2.1 0; have F2 := Has.open_ E.2.1 1; (try have F3 := Has.open_ E.2.2.1 0); (try have F4 := Has.open_ E.2.2.1 1)) | (go_at_call 35; (with_reducible refine (hTxt _).mono ?_); rintro e w1 ⟨rfl, hb⟩; replace E := E.on hb; clear C; have C := E.cells; simp only [BC] at C; clear hb; (try clear F1 F2 F3 F4); have F1 := Has.open_ E.2.1 0; have F2 := Has.open_ E.2.1 1; (try have F3 := Has.open_ E.2.2.1 0); (try have F4 := Has.open_ E.2.2.1 1)))
                refine bodyPost_ret (v := .tuple #[.agg #[.int .i64 (0), .int .i64 (0)], .bool false]) (by simp [results, Tryd.results37, go_sem, C]) rfl ⟨rfl, ?_⟩
                (repeat' (first | exact E.1 | with_reducible refine al ?_ _ | with_reducible refine Below.setCell ?_ ?_ _))
                all_goals first | exact Nat.le_refl _ | (simp; done) | (simp; omega) | omega
      · have hk' : k = s.size := by omega
        subst hk'
        have g3 : decide ((s.size : Int) < (s.size : Int)) = false := by simp
        obtain ⟨x1, b1, hn1⟩ : ∃ x1 b1, numF s.data.toList = (x1, b1) := ⟨_, _, rfl⟩
        have O1 := numF_ok s.data.toList
        rw [hn1] at O1
        obtain ⟨⟨i1, i2⟩, i3, O1⟩ := O1
        have hN1 := fun W => number_any s W hn1
        have C := E.cells
        simp only [BC] at C
        have F1 := Has.open_ E.2.1 0
        have F2 := Has.open_ E.2.1 1
        clear hn1
        have hK : Hid (∀ n d, V n d → textL n d = s.data.toList → b1 = true ∧ n = x1 ∧ d = 1) := Lib.hid fun n d v e => by
          obtain ⟨k1, k2, k3, k4, k5⟩ := hS.out n d v e
          rw [List.take_of_length_le (by rw [← zT.out]; omega)] at k3
          obtain ⟨o1, o2⟩ := O1 n.natAbs (by obtain ⟨_, _, _, _, _⟩ := v; omega) k3
          have hd : d = 1 := by
            by_cases h : d = 1
            · exact h
            · have := k4.2 h; rw [← zT.out] at this; omega
          refine ⟨o2, ?_, hd⟩
          have := of_decide_eq_false k1.symm
          omega
        clear hS
        cases b1
        · obtain ⟨rfl, rfl, rfl⟩ := fin_no HR.out fun n d v e => by have := hK.out n d v e; simp at this
          clear HR hK
          go_wp2_with (first | (go_at_call 62; first | ((with_reducible refine (hN1 _).mono ?_); rintro e w1 ⟨rfl, hb⟩; (first | (with_reducible replace E := (E.add _ _).on hb) | (with_reducible replace E := E.on hb)); (try (have gg : w.heap.size < w1.heap.size := E.2.1.size_; have gn : w.heap.size ≠ w1.heap.size := Nat.ne_of_lt gg; have gn' : w1.heap.size ≠ w.heap.size := fun h => gn h.symm)); clear C; have C := E.cells; simp only [BC] at C; clear hb; (try clear F1 F2 F3 F4); have F1 := Has.open_ E.2.1 0; have F2 := Has.open_ E.2.1 1; (try have F3 := Has.open_ E.2.2.1 0); (try have F4 := Has.open_ E.2.2.1 1))))
          refine bodyPost_ret (v := .tuple #[.agg #[.int .i64 (0), .int .i64 (0)], .bool false]) (by simp [results, Tryd.results37, go_sem, C]) rfl ⟨rfl, ?_⟩
          (repeat' (first | exact E.1 | with_reducible refine al ?_ _ | with_reducible refine Below.setCell ?_ ?_ _))
          all_goals first | exact Nat.le_refl _ | (simp; done) | (simp; omega) | omega
        · cases hv : vB (x1) (1)
          · obtain ⟨rfl, rfl, rfl⟩ := fin_no HR.out fun n d v e => by
              obtain ⟨-, e1, e2⟩ := hK.out n d v e
              rw [e1, e2] at v; rw [vB_t.2 v] at hv; cases hv
            have hVal := fun W => rvalid_any (x1) (1) W (by omega) (by omega) (by omega) (by omega)
            rw [hv] at hVal
            clear HR hK
            go_wp2_with (first | (go_at_call 62; first | ((with_reducible refine (hN1 _).mono ?_); rintro e w1 ⟨rfl, hb⟩; (first | (with_reducible replace E := (E.add _ _).on hb) | (with_reducible replace E := E.on hb)); (try (have gg : w.heap.size < w1.heap.size := E.2.1.size_; have gn : w.heap.size ≠ w1.heap.size := Nat.ne_of_lt gg; have gn' : w1.heap.size ≠ w.heap.size := fun h => gn h.symm)); clear C; have C := E.cells; simp only [BC] at C; clear hb; (try clear F1 F2 F3 F4); have F1 := Has.open_ E.2.1 0; have F2 := Has.open_ E.2.1 1; (try have F3 := Has.open_ E.2.2.1 0); (try have F4 := Has.open_ E.2.2.1 1))) | (go_at_call 18; (with_reducible refine (hVal _).mono ?_); rintro e w1 ⟨rfl, hb⟩; (first | (with_reducible replace E := E.on hb) | (with_reducible replace E := (E.add _ _).on hb) | (with_reducible replace E := (env_s1 E gg _).on hb) | (with_reducible replace E := (env_s0 (env_s1 E gg _) gg _).on hb)); clear C; have C := E.cells; simp only [BC] at C; clear hb; (try clear F1 F2 F3 F4); have F1 := Has.open_ E.2.1 0; have F2 := Has.open_ E.2.1 1; (try have F3 := Has.open_ E.2.2.1 0); (try have F4 := Has.open_ E.2.2.1 1)))
            refine bodyPost_ret (v := .tuple #[.agg #[.int .i64 (0), .int .i64 (0)], .bool false]) (by simp [results, Tryd.results37, go_sem, C]) rfl ⟨rfl, ?_⟩
            (repeat' (first | exact E.1 | with_reducible refine al ?_ _ | with_reducible refine Below.setCell ?_ ?_ _))
            all_goals first | exact Nat.le_refl _ | (simp; done) | (simp; omega) | omega
          · have v := vB_t.1 hv
            have hVal := fun W => rvalid_any (x1) (1) W (by omega) (by omega) (by omega) (by omega)
            rw [hv] at hVal
            have hTxt := fun W => rtext_ok (x1) (1) W v
            by_cases et : textL (x1) (1) = s.data.toList
            · obtain ⟨rfl, rfl, rfl⟩ : x1 = x ∧ 1 = q ∧ b = true := fin_yes HR.out v et
              have es : (ByteArray.mk (textL (x1) (1)).toArray) = s := by rw [et]
              rw [es] at hTxt
              clear HR hK v hv et es
              go_wp2_with (first | (go_at_call 62; first | ((with_reducible refine (hN1 _).mono ?_); rintro e w1 ⟨rfl, hb⟩; (first | (with_reducible replace E := (E.add _ _).on hb) | (with_reducible replace E := E.on hb)); (try (have gg : w.heap.size < w1.heap.size := E.2.1.size_; have gn : w.heap.size ≠ w1.heap.size := Nat.ne_of_lt gg; have gn' : w1.heap.size ≠ w.heap.size := fun h => gn h.symm)); clear C; have C := E.cells; simp only [BC] at C; clear hb; (try clear F1 F2 F3 F4); have F1 := Has.open_ E.2.1 0; have F2 := Has.open_ E.2.1 1; (try have F3 := Has.open_ E.2.2.1 0); (try have F4 := Has.open_ E.2.2.1 1))) | (go_at_call 18; (with_reducible refine (hVal _).mono ?_); rintro e w1 ⟨rfl, hb⟩; (first | (with_reducible replace E := E.on hb) | (with_reducible replace E := (E.add _ _).on hb) | (with_reducible replace E := (env_s1 E gg _).on hb) | (with_reducible replace E := (env_s0 (env_s1 E gg _) gg _).on hb)); clear C; have C := E.cells; simp only [BC] at C; clear hb; (try clear F1 F2 F3 F4); have F1 := Has.open_ E.2.1 0; have F2 := Has.open_ E.2.1 1; (try have F3 := Has.open_ E.2.2.1 0); (try have F4 := Has.open_ E.2.2.1 1)) | (go_at_call 35; (with_reducible refine (hTxt _).mono ?_); rintro e w1 ⟨rfl, hb⟩; replace E := E.on hb; clear C; have C := E.cells; simp only [BC] at C; clear hb; (try clear F1 F2 F3 F4); have F1 := Has.open_ E.2.1 0; have F2 := Has.open_ E.2.1 1; (try have F3 := Has.open_ E.2.2.1 0); (try have F4 := Has.open_ E.2.2.1 1)))
              refine bodyPost_ret (v := .tuple #[.agg #[.int .i64 (x1), .int .i64 (1)], .bool true]) (by simp [results, Tryd.results37, go_sem, C]) rfl ⟨rfl, ?_⟩
              (repeat' (first | exact E.1 | with_reducible refine al ?_ _ | with_reducible refine Below.setCell ?_ ?_ _))
              all_goals first | exact Nat.le_refl _ | (simp; done) | (simp; omega) | omega
            · obtain ⟨rfl, rfl, rfl⟩ := fin_no HR.out fun n d v e => by
                obtain ⟨-, e1, e2⟩ := hK.out n d v e
                rw [e1, e2] at e; exact et e
              have en : (textL (x1) (1) == s.toList) = false := by rw [Lib.toList_data]; simpa using et
              clear HR hK v hv et
              go_wp2_with (first | (go_at_call 62; first | ((with_reducible refine (hN1 _).mono ?_); rintro e w1 ⟨rfl, hb⟩; (first | (with_reducible replace E := (E.add _ _).on hb) | (with_reducible replace E := E.on hb)); (try (have gg : w.heap.size < w1.heap.size := E.2.1.size_; have gn : w.heap.size ≠ w1.heap.size := Nat.ne_of_lt gg; have gn' : w1.heap.size ≠ w.heap.size := fun h => gn h.symm)); clear C; have C := E.cells; simp only [BC] at C; clear hb; (try clear F1 F2 F3 F4); have F1 := Has.open_ E.2.1 0; have F2 := Has.open_ E.2.1 1; (try have F3 := Has.open_ E.2.2.1 0); (try have F4 := Has.open_ E.2.2.1 1))) | (go_at_call 18; (with_reducible refine (hVal _).mono ?_); rintro e w1 ⟨rfl, hb⟩; (first | (with_reducible replace E := E.on hb) | (with_reducible replace E := (E.add _ _).on hb) | (with_reducible replace E := (env_s1 E gg _).on hb) | (with_reducible replace E := (env_s0 (env_s1 E gg _) gg _).on hb)); clear C; have C := E.cells; simp only [BC] at C; clear hb; (try clear F1 F2 F3 F4); have F1 := Has.open_ E.2.1 0; have F2 := Has.open_ E.2.1 1; (try have F3 := Has.open_ E.2.2.1 0); (try have F4 := Has.open_ E.2.2.1 1)) | (go_at_call 35; (with_reducible refine (hTxt _).mono ?_); rintro e w1 ⟨rfl, hb⟩; replace E := E.on hb; clear C; have C := E.cells; simp only [BC] at C; clear hb; (try clear F1 F2 F3 F4); have F1 := Has.open_ E.2.1 0; have F2 := Has.open_ E.2.1 1; (try have F3 := Has.open_ E.2.2.1 0); (try have F4 := Has.open_ E.2.2.1 1)))
              refine bodyPost_ret (v := .tuple #[.agg #[.int .i64 (0), .int .i64 (0)], .bool false]) (by simp [results, Tryd.results37, go_sem, C]) rfl ⟨rfl, ?_⟩
              (repeat' (first | exact E.1 | with_reducible refine al ?_ _ | with_reducible refine Below.setCell ?_ ?_ _))
              all_goals first | exact Nat.le_refl _ | (simp; done) | (simp; omega) | omega
end Go.Proofs.YtbbbmlnggehcdaaDoor
namespace Go.Proofs.YtbbbmlnggehcdaaDoor
open Go.ChangeShapes Go.WideShapes Go.ChangeAt Go.RowKit Go.Shelf
set_option linter.unusedVariables false
set_option linter.unusedSimpArgs false

set_option maxRecDepth 100000 in
set_option maxHeartbeats 8000000 in
theorem rp_neg (s : ByteArray) (w : World) (hs : s.size ≤ 1000) (hV : Vars w) {x q : Int} {b : Bool} (hr : parseR s.data.toList = (x, q, if b then 0 else 7)) (z0 : 0 < s.size) (h45 : s[0] = 45) :
    Calls Tryd.prog 37 #[.string s] w fun e w' => e = .returned (.tuple #[.agg #[.int .i64 x, .int .i64 q], .bool b]) ∧ Below w.heap.size w w' := by
  have E0 := env_one w 0 0
  have HR := Lib.hid hr
  clear hr
  have g1 : decide (0 < (s.size : Int)) = true := by simp; omega
  have g2 : ((s[0].toNat : Int) == 45) = true := by rw [h45]; rfl
  have eT : s.size - 1 = (s.extract 1 s.size).size := by simp
  obtain ⟨T, hT⟩ : ∃ T, s.extract 1 s.size = T := ⟨_, rfl⟩
  rw [hT] at eT
  have tz : T.size ≤ 1000 := by omega
  replace eT := Lib.hid eT
  go_enter Tryd.func37, Tryd.ntmps37
  go_wp2

  go_loopw [6, 7] (fun a c wr => ∃ (i k : Nat), c = .int .i64 i ∧ a = .int .i64 k ∧ i ≤ T.size ∧ k ≤ T.size ∧ Hid (At T.data.toList i k) ∧ Env w wr [⟨w.heap.size, 0, 0⟩]) (fun _ c _ => T.size - (intOf c).toNat)
  case atStart => exact ⟨0, T.size, rfl, by first | rfl | (rw [← eT.out]), Nat.zero_le _, Nat.le_refl _, Lib.hid (.inl ⟨b_size T, fun j hj => by omega⟩), E0⟩
  case round =>
    clear E0
    obtain ⟨i, k, rfl, rfl, hi, hkl, hA, E⟩ := hrel
    have zT := Lib.hid (b_size T)
    by_cases hlt : i < T.size
    · have g : decide ((i : Int) < (T.size : Int)) = true := by simp [hlt]
      have W1 : IntKind.i64.wrap ((i : Int) + 1) = ((i + 1 : Nat) : Int) := by rw [IntWalk.i64_in _ (by omega)]; omega
      have gt := at_get T i hlt
      by_cases c47 : T[i] = 47
      · have g2 : ((T[i].toNat : Int) == 47) = true := by rw [c47]; rfl
        rw [c47] at gt
        by_cases hk : k = T.size
        · have g3 : ((k : Int) == (T.size : Int)) = true := by simp [hk]
          have nx : At T.data.toList (i + 1) i := At.step1 (by rw [← zT.out, ← hk]; exact hA.out) gt (by have := zT.out; omega)
          subst hk
          go_wp2
          exact ⟨⟨i + 1, i, rfl, rfl, hlt, by omega, Lib.hid nx, E⟩, by simp [intOf]; omega⟩
        · have g3 : ((k : Int) == (T.size : Int)) = false := by simp; omega
          have nx := At.step2 hA.out (.inr (by have := zT.out; omega : k ≠ T.data.toList.length))
          go_wp2
          exact ⟨⟨i + 1, k, rfl, rfl, hlt, hkl, Lib.hid nx, E⟩, by simp [intOf]; omega⟩
      · have g2 : ((T[i].toNat : Int) == 47) = false := by
          simp; intro c; exact c47 (UInt8.toNat_inj.1 (by rw [show (47 : UInt8).toNat = 47 from rfl]; omega))
        have nx := At.step2 hA.out (.inl (by rw [gt]; simpa using c47))
        go_wp2
        exact ⟨⟨i + 1, k, rfl, rfl, hlt, hkl, Lib.hid nx, E⟩, by simp [intOf]; omega⟩
    · have g : decide ((i : Int) < (T.size : Int)) = false := by simp; omega
      obtain rfl : i = T.size := by omega
      have hS : Hid (∀ n d, V n d → textL n d = s.data.toList → true = decide (n < 0) ∧ k = (Lib.decDigits n.natAbs).length ∧ T.data.toList.take k = Lib.decDigits n.natAbs ∧ (k < T.data.toList.length ↔ d ≠ 1) ∧ (d ≠ 1 → T.data.toList.drop (k + 1) = Lib.decDigits d.natAbs)) := Lib.hid fun n d v e => shape v e (.inl ⟨rfl, by rw [← hT, ext_drop]; exact (cons_of s z0 h45)⟩) (by rw [← zT.out]; exact hA.out)
      clear hA
      by_cases hk : k < T.size
      · have g3 : decide ((k : Int) < (T.size : Int)) = true := by simp [hk]
        obtain ⟨x1, b1, hn1⟩ : ∃ x1 b1, numF (T.extract 0 k).data.toList = (x1, b1) := ⟨_, _, rfl⟩
        obtain ⟨x2, b2, hn2⟩ : ∃ x2 b2, numF (T.extract (k + 1) T.size).data.toList = (x2, b2) := ⟨_, _, rfl⟩
        have O1 := numF_ok (T.extract 0 k).data.toList
        have O2 := numF_ok (T.extract (k + 1) T.size).data.toList
        rw [hn1, ext_take] at O1
        rw [hn2, ext_drop] at O2
        obtain ⟨⟨i1, i2⟩, i3, O1⟩ := O1
        obtain ⟨⟨j1, j2⟩, j3, O2⟩ := O2
        have hN1 := fun W => number_any (T.extract 0 k) W hn1
        have hN2 := fun W => number_any (T.extract (k + 1) T.size) W hn2
        have W3 : IntKind.i64.wrap ((k : Int) + 1) = ((k + 1 : Nat) : Int) := by rw [IntWalk.i64_in _ (by omega)]; omega
        have C := E.cells
        simp only [BC] at C
        have F1 := Has.open_ E.2.1 0
        have F2 := Has.open_ E.2.1 1
        clear hn1 hn2
        have W0 : IntKind.i64.wrap (-x1) = -x1 := IntWalk.i64_in _ (by omega)
        have W9 : IntKind.i64.wrap (0 - x1) = -x1 := by rw [show 0 - x1 = -x1 by omega]; exact W0
        have hK : Hid (∀ n d, V n d → textL n d = s.data.toList → b1 = true ∧ b2 = true ∧ n = -x1 ∧ d = x2) := Lib.hid fun n d v e => by
          obtain ⟨k1, k2, k3, k4, k5⟩ := hS.out n d v e
          have hd : d ≠ 1 := k4.1 (by rw [← zT.out]; exact hk)
          have vv := v
          obtain ⟨v1, v2, v3, v4, _⟩ := vv
          obtain ⟨o1, o2⟩ := O1 n.natAbs (by omega) k3
          obtain ⟨p1, p2⟩ := O2 d.natAbs (by omega) (k5 hd)
          refine ⟨o2, p2, ?_, by omega⟩
          have := of_decide_eq_true k1.symm
          omega
        clear hS
        cases b1
        · obtain ⟨rfl, rfl, rfl⟩ := fin_no HR.out fun n d v e => by have := hK.out n d v e; simp at this
          clear HR hK
          go_wp2_with (first | (go_at_call 62; first | ((with_reducible refine (hN1 _).mono ?_); rintro e w1 ⟨rfl, hb⟩; (first | (with_reducible replace E := (E.add _ _).on hb) | (with_reducible replace E := E.on hb)); (try (have gg : w.heap.size < w1.heap.size := E.2.1.size_; have gn : w.heap.size ≠ w1.heap.size := Nat.ne_of_lt gg; have gn' : w1.heap.size ≠ w.heap.size := fun h => gn h.symm)); clear C; have C := E.cells; simp only [BC] at C; clear hb; (try clear F1 F2 F3 F4); have F1 := Has.open_ E.2.1 0; have F2 := Has.open_ E.2.1 1; (try have F3 := Has.open_ E.2.2.1 0); (try have F4 := Has.open_ E.2.2.1 1)) | ((with_reducible refine (hN2 _).mono ?_); rintro e w1 ⟨rfl, hb⟩; (first | (with_reducible replace E := (E.add _ _).on hb) | (with_reducible replace E := E.on hb)); (try (have gg : w.heap.size < w1.heap.size := E.2.1.size_; have gn : w.heap.size ≠ w1.heap.size := Nat.ne_of_lt gg; have gn' : w1.heap.size ≠ w.heap.size := fun h => gn h.symm)); clear C; have C := E.cells; simp only [BC] at C; clear hb; (try clear F1 F2 F3 F4); have F1 := Has.open_ E.2.1 0; have F2 := Has.open_ E.2.1 1; (try have F3 := Has.open_ E.2.2.1 0); (try have F4 := Has.open_ E.2.2.1 1))))
          refine bodyPost_ret (v := .tuple #[.agg #[.int .i64 (0), .int .i64 (0)], .bool false]) (by simp [results, Tryd.results37, go_sem, C]) rfl ⟨rfl, ?_⟩
          (repeat' (first | exact E.1 | with_reducible refine al ?_ _ | with_reducible refine Below.setCell ?_ ?_ _))
          all_goals first | exact Nat.le_refl _ | (simp; done) | (simp; omega) | omega
        · cases b2
          · obtain ⟨rfl, rfl, rfl⟩ := fin_no HR.out fun n d v e => by have := hK.out n d v e; simp at this
            clear HR hK
            go_wp2_with (first | (go_at_call 62; first | ((with_reducible refine (hN1 _).mono ?_); rintro e w1 ⟨rfl, hb⟩; (first | (with_reducible replace E := (E.add _ _).on hb) | (with_reducible replace E := E.on hb)); (try (have gg : w.heap.size < w1.heap.size := E.2.1.size_; have gn : w.heap.size ≠ w1.heap.size := Nat.ne_of_lt gg; have gn' : w1.heap.size ≠ w.heap.size := fun h => gn h.symm)); clear C; have C := E.cells; simp only [BC] at C; clear hb; (try clear F1 F2 F3 F4); have F1 := Has.open_ E.2.1 0; have F2 := Has.open_ E.2.1 1; (try have F3 := Has.open_ E.2.2.1 0); (try have F4 := Has.open_ E.2.2.1 1)) | ((with_reducible refine (hN2 _).mono ?_); rintro e w1 ⟨rfl, hb⟩; (first | (with_reducible replace E := (E.add _ _).on hb) | (with_reducible replace E := E.on hb)); (try (have gg : w.heap.size < w1.heap.size := E.2.1.size_; have gn : w.heap.size ≠ w1.heap.size := Nat.ne_of_lt gg; have gn' : w1.heap.size ≠ w.heap.size := fun h => gn h.symm)); clear C; have C := E.cells; simp only [BC] at C; clear hb; (try clear F1 F2 F3 F4); have F1 := Has.open_ E.2.1 0; have F2 := Has.open_ E.2.1 1; (try have F3 := Has.open_ E.2.2.1 0); (try have F4 := Has.open_ E.2.2.1 1))))
            refine bodyPost_ret (v := .tuple #[.agg #[.int .i64 (0), .int .i64 (0)], .bool false]) (by simp [results, Tryd.results37, go_sem, C]) rfl ⟨rfl, ?_⟩
            (repeat' (first | exact E.1 | with_reducible refine al ?_ _ | with_reducible refine Below.setCell ?_ ?_ _))
            all_goals first | exact Nat.le_refl _ | (simp; done) | (simp; omega) | omega
          · cases hv : vB (-x1) (x2)
            · obtain ⟨rfl, rfl, rfl⟩ := fin_no HR.out fun n d v e => by
                obtain ⟨-, -, e1, e2⟩ := hK.out n d v e
                rw [e1, e2] at v; rw [vB_t.2 v] at hv; cases hv
              have hVal := fun W => rvalid_any (-x1) (x2) W (by omega) (by omega) (by omega) (by omega)
              rw [hv] at hVal
              clear HR hK
              go_wp2_with (first | (go_at_call 62; first | ((with_reducible refine (hN1 _).mono ?_); rintro e w1 ⟨rfl, hb⟩; (first | (with_reducible replace E := (E.add _ _).on hb) | (with_reducible replace E := E.on hb)); (try (have gg : w.heap.size < w1.heap.size := E.2.1.size_; have gn : w.heap.size ≠ w1.heap.size := Nat.ne_of_lt gg; have gn' : w1.heap.size ≠ w.heap.size := fun h => gn h.symm)); clear C; have C := E.cells; simp only [BC] at C; clear hb; (try clear F1 F2 F3 F4); have F1 := Has.open_ E.2.1 0; have F2 := Has.open_ E.2.1 1; (try have F3 := Has.open_ E.2.2.1 0); (try have F4 := Has.open_ E.2.2.1 1)) | ((with_reducible refine (hN2 _).mono ?_); rintro e w1 ⟨rfl, hb⟩; (first | (with_reducible replace E := (E.add _ _).on hb) | (with_reducible replace E := E.on hb)); (try (have gg : w.heap.size < w1.heap.size := E.2.1.size_; have gn : w.heap.size ≠ w1.heap.size := Nat.ne_of_lt gg; have gn' : w1.heap.size ≠ w.heap.size := fun h => gn h.symm)); clear C; have C := E.cells; simp only [BC] at C; clear hb; (try clear F1 F2 F3 F4); have F1 := Has.open_ E.2.1 0; have F2 := Has.open_ E.2.1 1; (try have F3 := Has.open_ E.2.2.1 0); (try have F4 := Has.open_ E.2.2.1 1))) | (go_at_call 18; (with_reducible refine (hVal _).mono ?_); rintro e w1 ⟨rfl, hb⟩; (first | (with_reducible replace E := E.on hb) | (with_reducible replace E := (E.add _ _).on hb) | (with_reducible replace E := (env_s1 E gg _).on hb) | (with_reducible replace E := (env_s0 (env_s1 E gg _) gg _).on hb)); clear C; have C := E.cells; simp only [BC] at C; clear hb; (try clear F1 F2 F3 F4); have F1 := Has.open_ E.2.1 0; have F2 := Has.open_ E.2.1 1; (try have F3 := Has.open_ E.2.2.1 0); (try have F4 := Has.open_ E.2.2.1 1)))
              refine bodyPost_ret (v := .tuple #[.agg #[.int .i64 (0), .int .i64 (0)], .bool false]) (by simp [results, Tryd.results37, go_sem, C]) rfl ⟨rfl, ?_⟩
              (repeat' (first | exact E.1 | with_reducible refine al ?_ _ | with_reducible refine Below.setCell ?_ ?_ _))
              all_goals first | exact Nat.le_refl _ | (simp; done) | (simp; omega) | omega
            · have v := vB_t.1 hv
              have hVal := fun W => rvalid_any (-x1) (x2) W (by omega) (by omega) (by omega) (by omega)
              rw [hv] at hVal
              have hTxt := fun W => rtext_ok (-x1) (x2) W v
              by_cases et : textL (-x1) (x2) = s.data.toList
              · obtain ⟨rfl, rfl, rfl⟩ : -x1 = x ∧ x2 = q ∧ b = true := fin_yes HR.out v et
                have es : (ByteArray.mk (textL (-x1) (x2)).toArray) = s := by rw [et]
                rw [es] at hTxt
                clear HR hK v hv et es
                go_wp2_with (first | (go_at_call 62; first | ((with_reducible refine (hN1 _).mono ?_); rintro e w1 ⟨rfl, hb⟩; (first | (with_reducible replace E := (E.add _ _).on hb) | (with_reducible replace E := E.on hb)); (try (have gg : w.heap.size < w1.heap.size := E.2.1.size_; have gn : w.heap.size ≠ w1.heap.size := Nat.ne_of_lt gg; have gn' : w1.heap.size ≠ w.heap.size := fun h => gn h.symm)); clear C; have C := E.cells; simp only [BC] at C; clear hb; (try clear F1 F2 F3 F4); have F1 := Has.open_ E.2.1 0; have F2 := Has.open_ E.2.1 1; (try have F3 := Has.open_ E.2.2.1 0); (try have F4 := Has.open_ E.2.2.1 1)) | ((with_reducible refine (hN2 _).mono ?_); rintro e w1 ⟨rfl, hb⟩; (first | (with_reducible replace E := (E.add _ _).on hb) | (with_reducible replace E := E.on hb)); (try (have gg : w.heap.size < w1.heap.size := E.2.1.size_; have gn : w.heap.size ≠ w1.heap.size := Nat.ne_of_lt gg; have gn' : w1.heap.size ≠ w.heap.size := fun h => gn h.symm)); clear C; have C := E.cells; simp only [BC] at C; clear hb; (try clear F1 F2 F3 F4); have F1 := Has.open_ E.2.1 0; have F2 := Has.open_ E.2.1 1; (try have F3 := Has.open_ E.2.2.1 0); (try have F4 := Has.open_ E.2.2.1 1))) | (go_at_call 18; (with_reducible refine (hVal _).mono ?_); rintro e w1 ⟨rfl, hb⟩; (first | (with_reducible replace E := E.on hb) | (with_reducible replace E := (E.add _ _).on hb) | (with_reducible replace E := (env_s1 E gg _).on hb) | (with_reducible replace E := (env_s0 (env_s1 E gg _) gg _).on hb)); clear C; have C := E.cells; simp only [BC] at C; clear hb; (try clear F1 F2 F3 F4); have F1 := Has.open_ E.2.1 0; have F2 := Has.open_ E.2.1 1; (try have F3 := Has.open_ E.2.2.1 0); (try have F4 := Has.open_ E.2.2.1 1)) | (go_at_call 35; (with_reducible refine (hTxt _).mono ?_); rintro e w1 ⟨rfl, hb⟩; replace E := E.on hb; clear C; have C := E.cells; simp only [BC] at C; clear hb; (try clear F1 F2 F3 F4); have F1 := Has.open_ E.2.1 0; have F2 := Has.open_ E.2.1 1; (try have F3 := Has.open_ E.2.2.1 0); (try have F4 := Has.open_ E.2.2.1 1)))
                refine bodyPost_ret (v := .tuple #[.agg #[.int .i64 (-x1), .int .i64 (x2)], .bool true]) (by simp [results, Tryd.results37, go_sem, C]) rfl ⟨rfl, ?_⟩
                (repeat' (first | exact E.1 | with_reducible refine al ?_ _ | with_reducible refine Below.setCell ?_ ?_ _))
                all_goals first | exact Nat.le_refl _ | (simp; done) | (simp; omega) | omega
              · obtain ⟨rfl, rfl, rfl⟩ := fin_no HR.out fun n d v e => by
                  obtain ⟨-, -, e1, e2⟩ := hK.out n d v e
                  rw [e1, e2] at e; exact et e
                have en : (textL (-x1) (x2) == s.toList) = false := by rw [Lib.toList_data]; simpa using et
                clear HR hK v hv et
                go_wp2_with (first | (go_at_call 62; first | ((with_reducible refine (hN1 _).mono ?_); rintro e w1 ⟨rfl, hb⟩; (first | (with_reducible replace E := (E.add _ _).on hb) | (with_reducible replace E := E.on hb)); (try (have gg : w.heap.size < w1.heap.size := E.2.1.size_; have gn : w.heap.size ≠ w1.heap.size := Nat.ne_of_lt gg; have gn' : w1.heap.size ≠ w.heap.size := fun h => gn h.symm)); clear C; have C := E.cells; simp only [BC] at C; clear hb; (try clear F1 F2 F3 F4); have F1 := Has.open_ E.2.1 0; have F2 := Has.open_ E.2.1 1; (try have F3 := Has.open_ E.2.2.1 0); (try have F4 := Has.open_ E.2.2.1 1)) | ((with_reducible refine (hN2 _).mono ?_); rintro e w1 ⟨rfl, hb⟩; (first | (with_reducible replace E := (E.add _ _).on hb) | (with_reducible replace E := E.on hb)); (try (have gg : w.heap.size < w1.heap.size := E.2.1.size_; have gn : w.heap.size ≠ w1.heap.size := Nat.ne_of_lt gg; have gn' : w1.heap.size ≠ w.heap.size := fun h => gn h.symm)); clear C; have C := E.cells; simp only [BC] at C; clear hb; (try clear F1 F2 F3 F4); have F1 := Has.open_ E.2.1 0; have F2 := Has.open_ E.2.1 1; (try have F3 := Has.open_ E.2.2.1 0); (try have F4 := Has.open_ E.2.2.1 1))) | (go_at_call 18; (with_reducible refine (hVal _).mono ?_); rintro e w1 ⟨rfl, hb⟩; (first | (with_reducible replace E := E.on hb) | (with_reducible replace E := (E.add _ _).on hb) | (with_reducible replace E := (env_s1 E gg _).on hb) | (with_reducible replace E := (env_s0 (env_s1 E gg _) gg _).on hb)); clear C; have C := E.cells; simp only [BC] at C; clear hb; (try clear F1 F2 F3 F4); have F1 := Has.open_ E.2.1 0; have F2 := Has.open_ E.2.1 1; (try have F3 := Has.open_ E.2.2.1 0); (try have F4 := Has.open_ E.2.2.1 1)) | (go_at_call 35; (with_reducible refine (hTxt _).mono ?_); rintro e w1 ⟨rfl, hb⟩; replace E := E.on hb; clear C; have C := E.cells; simp only [BC] at C; clear hb; (try clear F1 F2 F3 F4); have F1 := Has.open_ E.2.1 0; have F2 := Has.open_ E.2.1 1; (try have F3 := Has.open_ E.2.2.1 0); (try have F4 := Has.open_ E.2.2.1 1)))
                refine bodyPost_ret (v := .tuple #[.agg #[.int .i64 (0), .int .i64 (0)], .bool false]) (by simp [results, Tryd.results37, go_sem, C]) rfl ⟨rfl, ?_⟩
                (repeat' (first | exact E.1 | with_reducible refine al ?_ _ | with_reducible refine Below.setCell ?_ ?_ _))
                all_goals first | exact Nat.le_refl _ | (simp; done) | (simp; omega) | omega
      · have hk' : k = T.size := by omega
        subst hk'
        have g3 : decide ((T.size : Int) < (T.size : Int)) = false := by simp
        obtain ⟨x1, b1, hn1⟩ : ∃ x1 b1, numF T.data.toList = (x1, b1) := ⟨_, _, rfl⟩
        have O1 := numF_ok T.data.toList
        rw [hn1] at O1
        obtain ⟨⟨i1, i2⟩, i3, O1⟩ := O1
        have hN1 := fun W => number_any T W hn1
        have C := E.cells
        simp only [BC] at C
        have F1 := Has.open_ E.2.1 0
        have F2 := Has.open_ E.2.1 1
        clear hn1
        have W0 : IntKind.i64.wrap (-x1) = -x1 := IntWalk.i64_in _ (by omega)
        have W9 : IntKind.i64.wrap (0 - x1) = -x1 := by rw [show 0 - x1 = -x1 by omega]; exact W0
        have hK : Hid (∀ n d, V n d → textL n d = s.data.toList → b1 = true ∧ n = -x1 ∧ d = 1) := Lib.hid fun n d v e => by
          obtain ⟨k1, k2, k3, k4, k5⟩ := hS.out n d v e
          rw [List.take_of_length_le (by rw [← zT.out]; omega)] at k3
          obtain ⟨o1, o2⟩ := O1 n.natAbs (by obtain ⟨_, _, _, _, _⟩ := v; omega) k3
          have hd : d = 1 := by
            by_cases h : d = 1
            · exact h
            · have := k4.2 h; rw [← zT.out] at this; omega
          refine ⟨o2, ?_, hd⟩
          have := of_decide_eq_true k1.symm
          omega
        clear hS
        cases b1
        · obtain ⟨rfl, rfl, rfl⟩ := fin_no HR.out fun n d v e => by have := hK.out n d v e; simp at this
          clear HR hK
          go_wp2_with (first | (go_at_call 62; first | ((with_reducible refine (hN1 _).mono ?_); rintro e w1 ⟨rfl, hb⟩; (first | (with_reducible replace E := (E.add _ _).on hb) | (with_reducible replace E := E.on hb)); (try (have gg : w.heap.size < w1.heap.size := E.2.1.size_; have gn : w.heap.size ≠ w1.heap.size := Nat.ne_of_lt gg; have gn' : w1.heap.size ≠ w.heap.size := fun h => gn h.symm)); clear C; have C := E.cells; simp only [BC] at C; clear hb; (try clear F1 F2 F3 F4); have F1 := Has.open_ E.2.1 0; have F2 := Has.open_ E.2.1 1; (try have F3 := Has.open_ E.2.2.1 0); (try have F4 := Has.open_ E.2.2.1 1))))
          refine bodyPost_ret (v := .tuple #[.agg #[.int .i64 (0), .int .i64 (0)], .bool false]) (by simp [results, Tryd.results37, go_sem, C]) rfl ⟨rfl, ?_⟩
          (repeat' (first | exact E.1 | with_reducible refine al ?_ _ | with_reducible refine Below.setCell ?_ ?_ _))
          all_goals first | exact Nat.le_refl _ | (simp; done) | (simp; omega) | omega
        · cases hv : vB (-x1) (1)
          · obtain ⟨rfl, rfl, rfl⟩ := fin_no HR.out fun n d v e => by
              obtain ⟨-, e1, e2⟩ := hK.out n d v e
              rw [e1, e2] at v; rw [vB_t.2 v] at hv; cases hv
            have hVal := fun W => rvalid_any (-x1) (1) W (by omega) (by omega) (by omega) (by omega)
            rw [hv] at hVal
            clear HR hK
            go_wp2_with (first | (go_at_call 62; first | ((with_reducible refine (hN1 _).mono ?_); rintro e w1 ⟨rfl, hb⟩; (first | (with_reducible replace E := (E.add _ _).on hb) | (with_reducible replace E := E.on hb)); (try (have gg : w.heap.size < w1.heap.size := E.2.1.size_; have gn : w.heap.size ≠ w1.heap.size := Nat.ne_of_lt gg; have gn' : w1.heap.size ≠ w.heap.size := fun h => gn h.symm)); clear C; have C := E.cells; simp only [BC] at C; clear hb; (try clear F1 F2 F3 F4); have F1 := Has.open_ E.2.1 0; have F2 := Has.open_ E.2.1 1; (try have F3 := Has.open_ E.2.2.1 0); (try have F4 := Has.open_ E.2.2.1 1))) | (go_at_call 18; (with_reducible refine (hVal _).mono ?_); rintro e w1 ⟨rfl, hb⟩; (first | (with_reducible replace E := E.on hb) | (with_reducible replace E := (E.add _ _).on hb) | (with_reducible replace E := (env_s1 E gg _).on hb) | (with_reducible replace E := (env_s0 (env_s1 E gg _) gg _).on hb)); clear C; have C := E.cells; simp only [BC] at C; clear hb; (try clear F1 F2 F3 F4); have F1 := Has.open_ E.2.1 0; have F2 := Has.open_ E.2.1 1; (try have F3 := Has.open_ E.2.2.1 0); (try have F4 := Has.open_ E.2.2.1 1)))
            refine bodyPost_ret (v := .tuple #[.agg #[.int .i64 (0), .int .i64 (0)], .bool false]) (by simp [results, Tryd.results37, go_sem, C]) rfl ⟨rfl, ?_⟩
            (repeat' (first | exact E.1 | with_reducible refine al ?_ _ | with_reducible refine Below.setCell ?_ ?_ _))
            all_goals first | exact Nat.le_refl _ | (simp; done) | (simp; omega) | omega
          · have v := vB_t.1 hv
            have hVal := fun W => rvalid_any (-x1) (1) W (by omega) (by omega) (by omega) (by omega)
            rw [hv] at hVal
            have hTxt := fun W => rtext_ok (-x1) (1) W v
            by_cases et : textL (-x1) (1) = s.data.toList
            · obtain ⟨rfl, rfl, rfl⟩ : -x1 = x ∧ 1 = q ∧ b = true := fin_yes HR.out v et
              have es : (ByteArray.mk (textL (-x1) (1)).toArray) = s := by rw [et]
              rw [es] at hTxt
              clear HR hK v hv et es
              go_wp2_with (first | (go_at_call 62; first | ((with_reducible refine (hN1 _).mono ?_); rintro e w1 ⟨rfl, hb⟩; (first | (with_reducible replace E := (E.add _ _).on hb) | (with_reducible replace E := E.on hb)); (try (have gg : w.heap.size < w1.heap.size := E.2.1.size_; have gn : w.heap.size ≠ w1.heap.size := Nat.ne_of_lt gg; have gn' : w1.heap.size ≠ w.heap.size := fun h => gn h.symm)); clear C; have C := E.cells; simp only [BC] at C; clear hb; (try clear F1 F2 F3 F4); have F1 := Has.open_ E.2.1 0; have F2 := Has.open_ E.2.1 1; (try have F3 := Has.open_ E.2.2.1 0); (try have F4 := Has.open_ E.2.2.1 1))) | (go_at_call 18; (with_reducible refine (hVal _).mono ?_); rintro e w1 ⟨rfl, hb⟩; (first | (with_reducible replace E := E.on hb) | (with_reducible replace E := (E.add _ _).on hb) | (with_reducible replace E := (env_s1 E gg _).on hb) | (with_reducible replace E := (env_s0 (env_s1 E gg _) gg _).on hb)); clear C; have C := E.cells; simp only [BC] at C; clear hb; (try clear F1 F2 F3 F4); have F1 := Has.open_ E.2.1 0; have F2 := Has.open_ E.2.1 1; (try have F3 := Has.open_ E.2.2.1 0); (try have F4 := Has.open_ E.2.2.1 1)) | (go_at_call 35; (with_reducible refine (hTxt _).mono ?_); rintro e w1 ⟨rfl, hb⟩; replace E := E.on hb; clear C; have C := E.cells; simp only [BC] at C; clear hb; (try clear F1 F2 F3 F4); have F1 := Has.open_ E.2.1 0; have F2 := Has.open_ E.2.1 1; (try have F3 := Has.open_ E.2.2.1 0); (try have F4 := Has.open_ E.2.2.1 1)))
              refine bodyPost_ret (v := .tuple #[.agg #[.int .i64 (-x1), .int .i64 (1)], .bool true]) (by simp [results, Tryd.results37, go_sem, C]) rfl ⟨rfl, ?_⟩
              (repeat' (first | exact E.1 | with_reducible refine al ?_ _ | with_reducible refine Below.setCell ?_ ?_ _))
              all_goals first | exact Nat.le_refl _ | (simp; done) | (simp; omega) | omega
            · obtain ⟨rfl, rfl, rfl⟩ := fin_no HR.out fun n d v e => by
                obtain ⟨-, e1, e2⟩ := hK.out n d v e
                rw [e1, e2] at e; exact et e
              have en : (textL (-x1) (1) == s.toList) = false := by rw [Lib.toList_data]; simpa using et
              clear HR hK v hv et
              go_wp2_with (first | (go_at_call 62; first | ((with_reducible refine (hN1 _).mono ?_); rintro e w1 ⟨rfl, hb⟩; (first | (with_reducible replace E := (E.add _ _).on hb) | (with_reducible replace E := E.on hb)); (try (have gg : w.heap.size < w1.heap.size := E.2.1.size_; have gn : w.heap.size ≠ w1.heap.size := Nat.ne_of_lt gg; have gn' : w1.heap.size ≠ w.heap.size := fun h => gn h.symm)); clear C; have C := E.cells; simp only [BC] at C; clear hb; (try clear F1 F2 F3 F4); have F1 := Has.open_ E.2.1 0; have F2 := Has.open_ E.2.1 1; (try have F3 := Has.open_ E.2.2.1 0); (try have F4 := Has.open_ E.2.2.1 1))) | (go_at_call 18; (with_reducible refine (hVal _).mono ?_); rintro e w1 ⟨rfl, hb⟩; (first | (with_reducible replace E := E.on hb) | (with_reducible replace E := (E.add _ _).on hb) | (with_reducible replace E := (env_s1 E gg _).on hb) | (with_reducible replace E := (env_s0 (env_s1 E gg _) gg _).on hb)); clear C; have C := E.cells; simp only [BC] at C; clear hb; (try clear F1 F2 F3 F4); have F1 := Has.open_ E.2.1 0; have F2 := Has.open_ E.2.1 1; (try have F3 := Has.open_ E.2.2.1 0); (try have F4 := Has.open_ E.2.2.1 1)) | (go_at_call 35; (with_reducible refine (hTxt _).mono ?_); rintro e w1 ⟨rfl, hb⟩; replace E := E.on hb; clear C; have C := E.cells; simp only [BC] at C; clear hb; (try clear F1 F2 F3 F4); have F1 := Has.open_ E.2.1 0; have F2 := Has.open_ E.2.1 1; (try have F3 := Has.open_ E.2.2.1 0); (try have F4 := Has.open_ E.2.2.1 1)))
              refine bodyPost_ret (v := .tuple #[.agg #[.int .i64 (0), .int .i64 (0)], .bool false]) (by simp [results, Tryd.results37, go_sem, C]) rfl ⟨rfl, ?_⟩
              (repeat' (first | exact E.1 | with_reducible refine al ?_ _ | with_reducible refine Below.setCell ?_ ?_ _))
              all_goals first | exact Nat.le_refl _ | (simp; done) | (simp; omega) | omega
end Go.Proofs.YtbbbmlnggehcdaaDoor
namespace Go.Proofs.YtbbbmlnggehcdaaDoor
open Go.ChangeShapes Go.WideShapes Go.ChangeAt Go.RowKit Go.Shelf
set_option linter.unusedVariables false
set_option linter.unusedSimpArgs false
set_option maxRecDepth 100000 in
set_option maxHeartbeats 4000000 in
theorem rp_empty (w : World) :
    Calls Tryd.prog 37 #[.string ⟨#[]⟩] w fun e w' => e = .returned (.tuple #[.agg #[.int .i64 0, .int .i64 0], .bool false]) ∧ Below w.heap.size w w' := by
  have E := env_one w 0 0
  have C := E.cells
  simp only [BC] at C
  have F1 := Has.open_ E.2.1 0
  have F2 := Has.open_ E.2.1 1
  have hN1 := fun W => number_any ByteArray.empty W (show numF _ = (0, false) by rfl)
  go_enter Tryd.func37, Tryd.ntmps37
  go_wp2
  go_loopw [6, 7] (fun a c wr => c = .int .i64 0 ∧ a = .int .i64 0 ∧ Env w wr [⟨w.heap.size, 0, 0⟩]) (fun _ c _ => 0)
  case atStart => exact ⟨rfl, rfl, E⟩
  case round =>
    clear E C F1 F2
    obtain ⟨rfl, rfl, E⟩ := hrel
    have C := E.cells
    simp only [BC] at C
    have F1 := Has.open_ E.2.1 0
    have F2 := Has.open_ E.2.1 1
    go_wp2_with (go_at_call 62; (with_reducible refine (hN1 _).mono ?_); rintro e w1 ⟨rfl, hb⟩; replace E := E.on hb; clear C; have C := E.cells; simp only [BC] at C; clear hb; clear F1 F2; have F1 := Has.open_ E.2.1 0; have F2 := Has.open_ E.2.1 1)
    refine bodyPost_ret (v := .tuple #[.agg #[.int .i64 0, .int .i64 0], .bool false]) (by simp [results, Tryd.results37, go_sem, C]) rfl ⟨rfl, ?_⟩
    (repeat' (first | exact E.1 | with_reducible refine al ?_ _ | with_reducible refine Below.setCell ?_ ?_ _))
    all_goals first | exact Nat.le_refl _ | (simp; done) | (simp; omega) | omega

theorem rparse_any (s : ByteArray) (w : World) (hs : s.size ≤ 1000) (hV : Vars w) {x q : Int} {b : Bool} (hr : parseR s.data.toList = (x, q, if b then 0 else 7)) :
    Calls Tryd.prog 37 #[.string s] w fun e w' => e = .returned (.tuple #[.agg #[.int .i64 x, .int .i64 q], .bool b]) ∧ Below w.heap.size w w' := by
  by_cases hz : s.size = 0
  · have e : s = ⟨#[]⟩ := by
      have h : s.data.toList = [] := List.length_eq_zero_iff.1 (by rw [← b_size]; exact hz)
      exact b_eq h
    subst e
    obtain ⟨rfl, rfl, rfl⟩ := fin_no hr fun n d v e => by
      have h := congrArg List.length e
      unfold textL Lib.itoa at h
      split at h <;> split at h <;> simp at h
      exact dec_ne _ h
    exact rp_empty w
  · have z0 : 0 < s.size := by omega
    by_cases h45 : s[0] = 45
    · exact rp_neg s w hs hV hr z0 h45
    · exact rp_plain s w hs hV hr z0 h45
end Go.Proofs.YtbbbmlnggehcdaaDoor
