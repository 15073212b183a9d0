/- ContainsFunc at findings with the closures of BendFindings. -/
import Derived.Test.YthphgppgdlimeaaLl
import Derived.Deep.CutBlock
namespace Go.Proofs.Ythphgppgdlimeaa
open Go.ChangeShapes Go.WideShapes Go.ChangeAt Go.RowKit
set_option linter.unusedVariables false
set_option linter.unusedSimpArgs false

def hasK (y : Int) (l : List Int) : Bool := l.any (fun x => x == y)
theorem hasK_yes {y : Int} {l : List Int} {k : Nat} (hk : k < l.length) (h : (l[k] == y) = true) : hasK y l = true := List.any_eq_true.2 ⟨_, List.getElem_mem hk, h⟩
set_option maxRecDepth 100000 in
theorem clo38 (k y : Int) (mk : ByteArray) (c : Nat) (w : World) (hc : w.cell? ⟨c, 0, none⟩ = some (.int .i64 y)) :
    Calls Try.prog 38 #[.agg #[.int .i64 k, .string mk], .pointer (some ⟨c, 0, none⟩)] w fun e w' => e = .returned (.bool (k == y)) ∧ Below w.heap.size w w' := by
  have E := (Env.nil w).add w.heap.size 44 #[.int .i64 k, .string mk] rfl
  have C := E.cells
  simp [BC, CF] at C
  have d := cellLater E.1 hc
  go_enter Try.func38, Try.ntmps38
  go_wp2
  go_ret
  exact ⟨rfl, envb E⟩
set_option maxHeartbeats 8000000 in
set_option maxRecDepth 100000 in
theorem clo39 (k : Int) (mk : ByteArray) (c : Nat) (w : World) (hk : k = 1 ∨ k = 2) (hc : w.cell? ⟨c, 0, none⟩ = some (.string mk)) :
    Calls Try.prog 39 #[.agg #[.int .i64 k, .string mk], .pointer (some ⟨c, 0, none⟩)] w fun e w' => e = .returned (.bool false) ∧ Below w.heap.size w w' := by
  have E := (Env.nil w).add w.heap.size 44 #[.int .i64 k, .string mk] rfl
  have C := E.cells
  simp [BC, CF] at C
  have d := cellLater E.1 hc
  have g1 : decide (k < 1) = false := by simp; omega
  have g2 : decide (k > 2) = false := by simp; omega
  have g3 : decide (2 < k) = false := by simp; omega
  clear hk
  go_enter Try.func39, Try.ntmps39
  go_wp2
  go_ret
  exact ⟨rfl, envb E⟩
set_option maxHeartbeats 8000000 in
set_option maxRecDepth 100000 in
theorem idx38 (mk : ByteArray) (v : Value) (l : List Int) (y : Int) (c : Nat) (w : World) (hR : Rd (fc mk) 2 w v l) (hl : l.length ≤ 1000) (hc : w.cell? ⟨c, 0, none⟩ = some (.int .i64 y)) :
    Calls Try.prog 61 #[v, .func (.func 38) #[] #[.pointer (some ⟨c, 0, none⟩)]] w fun e w' => ∃ i : Int, e = .returned (.int .i64 i) ∧ decide (0 ≤ i) = hasK y l ∧ Below w.heap.size w w' := by
  obtain ⟨p, c1, rfl, k1⟩ := hR
  have K1 := Lib.hid k1
  have HC := Lib.hid hc
  clear k1 hc
  obtain ⟨n, hn⟩ : ∃ n, Hid (l.length = n) := ⟨_, Lib.hid rfl⟩
  rw [hn.out] at hl ⊢
  go_enter Try.func61, Try.ntmps61
  go_wp2
  go_loopw [8] (fun v wr => ∃ k : Nat, v = .int .i64 k ∧ k ≤ n ∧ Hid (∀ x ∈ l.take k, (x == y) = false) ∧ Below w.heap.size w wr) (fun v _ => n - (intOf v).toNat)
  case atStart => exact ⟨0, rfl, Nat.zero_le _, Lib.hid (by simp), Below.refl _ _⟩
  case round =>
    obtain ⟨k, rfl, hk, hG, hB⟩ := hrel
    by_cases hlt : k < n
    · have g1 : decide ((k : Int) < (n : Int)) = true := by simp [hlt]
      have W1 : IntKind.i64.wrap ((k : Int) + 1) = ((k + 1 : Nat) : Int) := by rw [IntWalk.i64_in _ (by omega)]; omega
      have q1 : (0 : Int) ≤ (k : Int) := by omega
      have q2 : (k : Int) < (n : Int) := by omega
      have hkl : k < l.length := by rw [hn.out]; exact hlt
      obtain ⟨ga, rfl, a⟩ := K1.out k hkl
      have a0 := cell_later hB (a 0 (by omega))
      have a1 := cell_later hB (a 1 (by omega))
      simp only [Nat.add_zero] at a0
      have hc := cell_later hB HC.out
      clear a
      have HT : Hid (∀ x ∈ l.take (k + 1), x ∈ l.take k ∨ x = l[k]) := Lib.hid fun x hx => by
        rw [List.take_succ_eq_append_getElem hkl, List.mem_append] at hx
        rcases hx with hx | hx
        · exact .inl hx
        · exact .inr (List.mem_singleton.1 hx)
      have HY := Lib.hid (fun h => hasK_yes (y := y) hkl h)
      obtain ⟨z, hz⟩ : ∃ z, Hid (z = l[k]) := ⟨_, Lib.hid rfl⟩
      rw [← hz.out] at HY HT a0
      replace a1 : wr.cell? ⟨ga, k * 2 + 1, none⟩ = some (.string mk) := a1
      replace a0 : wr.cell? ⟨ga, k * 2, none⟩ = some (.int .i64 z) := a0
      have hb := clo38 z y mk c wr hc
      skip
      cases hv : (z == y)
      · have HG : Hid (∀ x ∈ l.take (k + 1), (x == y) = false) := Lib.hid fun e he => by
          rcases HT.out e he with h | h
          · exact hG.out e h
          · rw [h]; exact hv
        rw [hv] at hb
        clear hv
        go_wp2_with (go_at_call 38; (with_reducible refine hb.mono ?_); rintro e1 w1 ⟨rfl, b1⟩)
        exact ⟨⟨k + 1, rfl, hlt, HG, belows hB b1⟩, by simp [intOf]; omega⟩
      · have HE := Lib.hid (HY.out hv)
        rw [hv] at hb
        clear hv
        go_wp2_with (go_at_call 38; (with_reducible refine hb.mono ?_); rintro e1 w1 ⟨rfl, b1⟩)
        go_ret
        exact ⟨_, rfl, by rw [HE.out]; simp, belows hB b1⟩
    · have g1 : decide ((k : Int) < (n : Int)) = false := by simp; omega
      have HE : Hid (hasK y l = false) := Lib.hid (List.any_eq_false.2 fun x hx => by
        rw [hG.out x (by rw [List.take_of_length_le (by rw [hn.out]; omega)]; exact hx)]; simp)
      go_wp2
      go_ret
      exact ⟨_, rfl, by rw [HE.out]; rfl, hB⟩
theorem con38 (mk : ByteArray) (v : Value) (l : List Int) (y : Int) (c : Nat) (w : World) (hR : Rd (fc mk) 2 w v l) (hl : l.length ≤ 1000) (hc : w.cell? ⟨c, 0, none⟩ = some (.int .i64 y)) :
    Calls Try.prog 37 #[v, .func (.func 38) #[] #[.pointer (some ⟨c, 0, none⟩)]] w fun e w' => e = .returned (.bool (hasK y l)) ∧ Below w.heap.size w w' := by
  have h := idx38 mk v l y c w hR hl hc
  obtain ⟨Y, hY⟩ : ∃ Y, Y = hasK y l := ⟨_, rfl⟩
  rw [← hY] at h ⊢
  clear hY
  go_enter Try.func37, Try.ntmps37
  go_wp2_with (go_at_call 61; (with_reducible refine h.mono ?_); rintro e w' ⟨i, rfl, hi, hb⟩)
  go_ret
  exact ⟨rfl, hb⟩
set_option maxHeartbeats 8000000 in
set_option maxRecDepth 100000 in
theorem idx39 (mk : ByteArray) (v : Value) (l : List Int) (c : Nat) (w : World) (hR : Rd (fc mk) 2 w v l) (hl : l.length ≤ 1000) (hA : ∀ x ∈ l, x = 1 ∨ x = 2) (hc : w.cell? ⟨c, 0, none⟩ = some (.string mk)) :
    Calls Try.prog 61 #[v, .func (.func 39) #[] #[.pointer (some ⟨c, 0, none⟩)]] w fun e w' => ∃ i : Int, e = .returned (.int .i64 i) ∧ decide (0 ≤ i) = false ∧ Below w.heap.size w w' := by
  obtain ⟨p, c1, rfl, k1⟩ := hR
  have K1 := Lib.hid k1
  have HC := Lib.hid hc
  clear k1 hc
  obtain ⟨n, hn⟩ : ∃ n, Hid (l.length = n) := ⟨_, Lib.hid rfl⟩
  rw [hn.out] at hl ⊢
  go_enter Try.func61, Try.ntmps61
  go_wp2
  go_loopw [8] (fun v wr => ∃ k : Nat, v = .int .i64 k ∧ k ≤ n ∧ Below w.heap.size w wr) (fun v _ => n - (intOf v).toNat)
  case atStart => exact ⟨0, rfl, Nat.zero_le _, Below.refl _ _⟩
  case round =>
    obtain ⟨k, rfl, hk, hB⟩ := hrel
    by_cases hlt : k < n
    · have g1 : decide ((k : Int) < (n : Int)) = true := by simp [hlt]
      have W1 : IntKind.i64.wrap ((k : Int) + 1) = ((k + 1 : Nat) : Int) := by rw [IntWalk.i64_in _ (by omega)]; omega
      have q1 : (0 : Int) ≤ (k : Int) := by omega
      have q2 : (k : Int) < (n : Int) := by omega
      have hkl : k < l.length := by rw [hn.out]; exact hlt
      obtain ⟨ga, rfl, a⟩ := K1.out k hkl
      have a0 := cell_later hB (a 0 (by omega))
      have a1 := cell_later hB (a 1 (by omega))
      simp only [Nat.add_zero] at a0
      have hc := cell_later hB HC.out
      clear a
      obtain ⟨z, hz⟩ : ∃ z, Hid (z = l[k]) := ⟨_, Lib.hid rfl⟩
      rw [← hz.out] at a0
      replace a1 : wr.cell? ⟨ga, k * 2 + 1, none⟩ = some (.string mk) := a1
      replace a0 : wr.cell? ⟨ga, k * 2, none⟩ = some (.int .i64 z) := a0
      have hb := clo39 z mk c wr (by rw [hz.out]; exact hA _ (List.getElem_mem hkl)) hc
      skip
      go_wp2_with (go_at_call 39; (with_reducible refine hb.mono ?_); rintro e1 w1 ⟨rfl, b1⟩)
      exact ⟨⟨k + 1, rfl, hlt, belows hB b1⟩, by simp [intOf]; omega⟩
    · have g1 : decide ((k : Int) < (n : Int)) = false := by simp; omega
      go_wp2
      go_ret
      exact ⟨_, rfl, rfl, hB⟩
theorem con39 (mk : ByteArray) (v : Value) (l : List Int) (c : Nat) (w : World) (hR : Rd (fc mk) 2 w v l) (hl : l.length ≤ 1000) (hA : ∀ x ∈ l, x = 1 ∨ x = 2) (hc : w.cell? ⟨c, 0, none⟩ = some (.string mk)) :
    Calls Try.prog 37 #[v, .func (.func 39) #[] #[.pointer (some ⟨c, 0, none⟩)]] w fun e w' => e = .returned (.bool (false)) ∧ Below w.heap.size w w' := by
  have h := idx39 mk v l c w hR hl hA hc
  obtain ⟨Y, hY⟩ : ∃ Y, Y = false := ⟨_, rfl⟩
  rw [← hY] at h ⊢
  clear hY
  go_enter Try.func37, Try.ntmps37
  go_wp2_with (go_at_call 61; (with_reducible refine h.mono ?_); rintro e w' ⟨i, rfl, hi, hb⟩)
  go_ret
  exact ⟨rfl, hb⟩
set_option maxRecDepth 100000 in
theorem has36 (mk : ByteArray) (v : Value) (l : List Int) (y : Int) (c : Nat) (w : World) (hR : Rd (fc mk) 2 w v l) (hl : l.length ≤ 1000) (hc : w.cell? ⟨c, 0, none⟩ = some v) :
    Calls Try.prog 36 #[.int .i64 y, .pointer (some ⟨c, 0, none⟩)] w fun e w' => e = .returned (.bool (hasK y l)) ∧ Below w.heap.size w w' := by
  have E := (Env.nil w).add w.heap.size 3 #[.int .i64 y] rfl
  have C := E.cells
  simp [BC, CF] at C
  have d := cellLater E.1 hc
  obtain ⟨p, c1, rfl, k1⟩ : ∃ p c1, v = .slice p l.length c1 ∧ True := by
    obtain ⟨p, c1, e, -⟩ := hR
    exact ⟨p, c1, e, trivial⟩
  have h := con38 mk _ l y w.heap.size _ (Rd.on (fl mk) hR E.1) hl E.cells.1.2.1.1
  obtain ⟨n, hn⟩ : ∃ n, n = l.length := ⟨_, rfl⟩
  rw [← hn] at h d
  clear hR hl hc k1 hn
  generalize hasK y l = Y at *
  go_enter Try.func36, Try.ntmps36
  go_wp2_with (go_at_call 37; (with_reducible refine h.mono ?_); rintro X wq ⟨rfl, hb⟩; replace E := E.on hb)
  go_ret
  exact ⟨rfl, envb E⟩
end Go.Proofs.Ythphgppgdlimeaa
