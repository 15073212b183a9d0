/- The far end of an edge; the indices of all edges. -/
import Derived.Test.YtampfciacjifgaaAro
namespace Go.Proofs.Ytampfciacjifgaa
open Go.ChangeShapes Go.WideShapes Go.ChangeAt Go.RowKit
set_option linter.unusedVariables false
set_option linter.unusedSimpArgs false

def oth (x : Nat × Nat) (v : Nat) : Nat := if x.1 = v then x.2 else x.1
set_option maxRecDepth 100000 in
theorem far_any (a b v : Nat) (w : World) :
    Calls Try.prog 55 #[.agg #[.int .i64 a, .int .i64 b], .int .i64 v] w fun e w' => e = .returned (.int .i64 (oth (a, b) v : Nat)) ∧ Below w.heap.size w w' := by
  have C := Has.new_ w 46 #[.int .i64 a, .int .i64 b]
  have C0 := C.read 0
  have C1 := C.read 1
  by_cases h : a = v
  · have t1 : ((a : Int) == (v : Int)) = true := by simp [h]
    have e : oth (a, b) v = b := if_pos h
    rw [e]
    have H := Lib.hid h
    clear h e
    go_enter Try.func55, Try.ntmps55
    go_wp2
    go_ret
    exact ⟨rfl, al1 _ _⟩
  · have t1 : ((a : Int) == (v : Int)) = false := by simp; omega
    have e : oth (a, b) v = a := if_neg h
    rw [e]
    have H := Lib.hid h
    clear h e
    go_enter Try.func55, Try.ntmps55
    go_wp2
    go_ret
    exact ⟨rfl, al1 _ _⟩
theorem Row.rd {w : World} {g n : Nat} {f : Nat → Nat} (h : Row w g n (fun j => (f j : Int))) : Rdl w (.slice (some ⟨g, 0, none⟩) n n) ((List.range n).map f) := by
  refine ⟨some ⟨g, 0, none⟩, n, by simp, fun j hj => ⟨g, rfl, ?_⟩⟩
  have hj' : j < n := by simpa using hj
  rw [h.read hj']; simp
set_option maxRecDepth 100000 in
theorem indices_any (p : Option Addr) (m cap : Nat) (w : World) (hm : m ≤ 4000) :
    Calls Try.prog 53 #[.slice p m cap] w fun e w' => e = .returned (.slice (some ⟨w.heap.size, 0, none⟩) m m) ∧ Rdl w' (.slice (some ⟨w.heap.size, 0, none⟩) m m) (List.range m) ∧ Below w.heap.size w w' := by
  obtain ⟨i0, hi, hz0, hz1, hz2⟩ := info_parts info3
  go_enter Try.func53, Try.ntmps53
  go_wp2_with (at_make; refine wpList_make_full _ rfl _ _ 29 rfl w.heap.size 3 i0 _ 1 Try.underlying29 hi hz0 hz1 _ _ _ _ m rfl rfl rfl rfl (by rw [hz2]; omega) (by unfold maxLen; omega) (Nat.le_refl _) ?_)
  intro w1 hown hgrow
  have hR := row_zero hown
  have hB := below_grown (Below.refl _ w) hgrow (Nat.le_refl _)
  clear hown hgrow
  go_wp2
  go_loopw [10] (fun v wr => ∃ k : Nat, v = .int .i64 k ∧ k ≤ m ∧ Hid (Row wr w.heap.size m (fun j => if j < k then (j : Int) else 0)) ∧ Below w.heap.size w wr) (fun v _ => m - (intOf v).toNat)
  case atStart => exact ⟨0, rfl, Nat.zero_le _, Lib.hid (hR.cong fun i _ => by simp), hB⟩
  case round =>
    clear hR hB
    obtain ⟨k, rfl, hk, hR, hB⟩ := hrel
    by_cases hlt : k < m
    · have g : decide ((k : Int) < (m : Int)) = true := by simp [hlt]
      have c := hR.out.read hlt
      have F := Has.open_ hR.out k
      have W1 : IntKind.i64.wrap ((k : Int) + 1) = ((k + 1 : Nat) : Int) := by rw [IntWalk.i64_in _ (by omega)]; omega
      go_wp2
      refine ⟨⟨k + 1, rfl, hlt, Lib.hid ((hR.out.put k k).cong fun i _ => ?_), hB.setCell (Nat.le_refl _) _⟩, by simp [intOf]; omega⟩
      unfold upd
      by_cases h1 : i = k
      · subst h1; simp
      · by_cases h2 : i < k
        · simp [h1, h2, show i < k + 1 by omega]
        · simp [h1, h2, show ¬ i < k + 1 by omega]
    · have g : decide ((k : Int) < (m : Int)) = false := by simp; omega
      have e : k = m := by omega
      subst e
      go_wp2
      go_ret
      have hR2 : Row wr w.heap.size k (fun j => ((id j : Nat) : Int)) := hR.out.cong fun i hi => by simp [hi]
      have hd := hR2.rd
      rw [List.map_id] at hd
      exact ⟨rfl, hd, hB⟩
end Go.Proofs.Ytampfciacjifgaa
