/- Nearest: the function. -/
import Derived.Test.YtepcokgpepcccaaDoorNr1
namespace Go.Proofs.YtepcokgpepcccaaDoor
open Go.ChangeShapes Go.WideShapes Go.ChangeAt Go.RowKit
set_option linter.unusedVariables false
set_option linter.unusedSimpArgs false

def outR (sum : Int) : Bool := decide (sum < -1152921504606846976) || decide (1152921504606846976 < sum)
theorem sums_sml {zs : List Int} (h : allZ zs = true) (hl : zs.length ≤ 10) : ∀ x ∈ sums zs, Sml x := fun x hx => by
  have := smo_in h zs.length x hx
  unfold Sml; omega
/-- What Nearest answers for a list that is not at fault and a number within bounds. -/
def npost (w : World) (zs : List Int) (sum : Int) (e : Ending) (w' : World) : Prop :=
  ∃ n x c, e = .returned (.tuple #[.int .i64 n, x, .int .i64 c]) ∧ Hid (Least sum (sums zs) n) ∧ Good w' zs (fst (bySum zs n) (2 ^ zs.length)) x c ∧ Below w.heap.size w w'
theorem fpost_good {B : Nat} {w w' : World} {zs : List Int} {o : Option Nat} {e : Ending} (h : fpost B w o e w') (ho : ∀ b, o = some b → b < 2 ^ zs.length) : ∃ x c, e = .returned (.tuple #[x, .int .i64 c]) ∧ Good w' zs o x c ∧ Below B w w' := by
  obtain ⟨hb, k⟩ := h
  cases o with
  | none => exact ⟨_, _, k, ⟨rfl, rfl⟩, hb⟩
  | some b =>
    obtain ⟨v, he, hv⟩ := k
    exact ⟨v, 0, he, ⟨rfl, ho b rfl, hv.rd⟩, hb⟩
set_option maxRecDepth 100000 in
set_option maxHeartbeats 4000000 in
theorem near_ok (u : Value) (zs : List Int) (sum : Int) (w : World) (hR : Rdz w u zs) (hT : Tab w) (h0 : fau zs = 0) (hl : zs.length ≤ 10) (ho : outR sum = false) :
    Calls Tryd.prog 12 #[u, .int .i64 sum] w (npost w zs sum) := by
  have hf := fun w h => fault_any u zs w h
  rw [h0] at hf
  have hz := (fau_zero h0).2
  have hN2 : 2 ^ zs.length ≤ 1024 := Nat.pow_le_pow_right (n := 2) (by omega) hl
  have hN1 : 1 ≤ 2 ^ zs.length := Nat.one_le_two_pow
  have hs := fun w h => sumsOf_ex u zs w h hl hz
  have hSl := sums_len zs
  have hsm := sums_sml hz hl
  have ho1 : decide (sum < -1152921504606846976) = false := by unfold outR at ho; simp at ho ⊢; omega
  have ho2 : decide (1152921504606846976 < sum) = false := by unfold outR at ho; simp at ho ⊢; omega
  have hsum : Sml sum := by unfold outR at ho; simp at ho; unfold Sml; omega
  have b0 := al1 w (.cells #[.int .i64 sum] 3)
  have cz : (w.alloc (.cells #[.int .i64 sum] 3)).cell? ⟨w.heap.size, 0, none⟩ = some (.int .i64 sum) := Has.read (Has.new_ w 3 #[.int .i64 sum]) 0
  have hP := fun w' e n x c => (show e = Ending.returned (.tuple #[.int .i64 n, x, .int .i64 c]) → Hid (Least sum (sums zs) n) → Good w' zs (fst (bySum zs n) (2 ^ zs.length)) x c → Below w.heap.size w w' → npost w zs sum e w' from fun a b c d => ⟨_, _, _, a, b, c, d⟩)
  obtain ⟨S, hSS⟩ : ∃ S, S = sums zs := ⟨_, rfl⟩
  have HSS := Lib.hid hSS
  rw [← hSS] at hs hSl hsm hP
  obtain ⟨N, hN⟩ : ∃ N, N = 2 ^ zs.length := ⟨_, rfl⟩
  have HN := Lib.hid hN
  rw [← hN] at hs hSl hN1 hN2 hP
  clear hSS hN ho
  go_enter Tryd.func12, Tryd.ntmps12
  go_wp2_with (first
    | (go_at_call 38; (with_reducible refine (hf _ (hR.on b0)).mono ?_); rintro e1 w1 ⟨rfl, hw⟩; subst w1)
    | (go_at_call 39; (with_reducible refine (hs _ (hR.on b0)).mono ?_); rintro e2 w2 ⟨g, rfl, hg, hO, hb2⟩; have bS := al1 w2 (.cells #[.slice (some ⟨g, 0, none⟩) N N] 22); have cS : (w2.alloc (.cells #[.slice (some ⟨g, 0, none⟩) N N] 22)).cell? ⟨w2.heap.size, 0, none⟩ = some (.slice (some ⟨g, 0, none⟩) N N) := Has.read (Has.new_ w2 22 _) 0)
    | (go_at_call 41; (with_reducible refine (minf_any N N g w.heap.size S sum _ hN2 hSl (by omega) hsm hsum (cell_later bS (cell_later hb2 cz)) (fun j hj => (hO.on bS).at_ hj)).mono ?_); rintro e3 w3 ⟨n, rfl, hL, hb3⟩; have cS4 := cell_later (al1 w3 (.cells #[.int .i64 n] 3)) (cell_later hb3 cS))
    | (go_at_call 46; (with_reducible refine (first_near N N w2.heap.size w3.heap.size ⟨g, 0, none⟩ S n _ hN2 hSl (hT.on (belows (belows (belows (belows b0 hb2) bS) hb3) (al1 w3 _))) (cell_later (al1 w3 _) (cell_later hb3 cS)) (Has.read (Has.new_ w3 3 _) 0) (fun j hj => by rw [Addr.add_lit, Nat.zero_add]; exact cell_later (al1 w3 _) (cell_later hb3 ((hO.on bS).at_ hj)))).mono ?_); rintro e4 w4 hF; obtain ⟨x, c, rfl, hG, hb4⟩ := fpost_good (zs := zs) hF (fun b hb => by rw [← HN.out]; exact fst_lt _ _ _ hb); have cn := cell_later hb4 (Has.read (Has.new_ w3 3 #[.int .i64 n]) 0)))
  have bb := belows (belows (belows (belows (belows b0 hb2) bS) hb3) (al1 w3 (.cells #[.int .i64 n] 3))) hb4
  have eG : (fun s => S.getD s 0 == n) = bySum zs n := by unfold bySum; rw [HSS.out]
  rw [eG] at hG
  exact bodyPost_ret (v := .tuple #[.int .i64 n, x, .int .i64 c]) (by simp [results, Tryd.results12, go_sem]) rfl (hP _ _ n x c rfl hL hG bb)
theorem near_out (u : Value) (zs : List Int) (sum : Int) (w : World) (hR : Rdz w u zs) (h0 : fau zs = 0) (ho : outR sum = true) :
    Calls Tryd.prog 12 #[u, .int .i64 sum] w fun e w' => e = .returned (.tuple #[.int .i64 0, .slice none 0 0, .int .i64 2]) ∧ Below w.heap.size w w' := by
  have hf := fun w h => fault_any u zs w h
  rw [h0] at hf
  have b0 := al1 w (.cells #[.int .i64 sum] 3)
  have cz : (w.alloc (.cells #[.int .i64 sum] 3)).cell? ⟨w.heap.size, 0, none⟩ = some (.int .i64 sum) := Has.read (Has.new_ w 3 #[.int .i64 sum]) 0
  go_enter Tryd.func12, Tryd.ntmps12
  by_cases h1 : sum < -1152921504606846976
  · have g1 : decide (sum < -1152921504606846976) = true := by simp [h1]
    clear ho
    go_wp2_with (go_at_call 38; (with_reducible refine (hf _ (hR.on b0)).mono ?_); rintro e1 w1 ⟨rfl, hw⟩; subst w1)
    exact bodyPost_ret (v := .tuple #[.int .i64 0, .slice none 0 0, .int .i64 2]) (by simp [results, Tryd.results12, go_sem]) rfl ⟨rfl, b0⟩
  · have g1 : decide (sum < -1152921504606846976) = false := by simp; omega
    have g2 : decide (1152921504606846976 < sum) = true := by unfold outR at ho; rw [g1] at ho; simpa using ho
    clear ho
    go_wp2_with (go_at_call 38; (with_reducible refine (hf _ (hR.on b0)).mono ?_); rintro e1 w1 ⟨rfl, hw⟩; subst w1)
    exact bodyPost_ret (v := .tuple #[.int .i64 0, .slice none 0 0, .int .i64 2]) (by simp [results, Tryd.results12, go_sem]) rfl ⟨rfl, b0⟩
theorem near_bad (u : Value) (zs : List Int) (sum : Int) (w : World) (hR : Rdz w u zs) (h0 : fau zs ≠ 0) :
    Calls Tryd.prog 12 #[u, .int .i64 sum] w fun e w' => e = .returned (.tuple #[.int .i64 0, .slice none 0 0, .int .i64 (fau zs)]) ∧ Below w.heap.size w w' := by
  have hf := fun w h => fault_any u zs w h
  have b0 := al1 w (.cells #[.int .i64 sum] 3)
  obtain ⟨f, ef⟩ : ∃ f, fau zs = f := ⟨_, rfl⟩
  rw [ef] at hf h0 ⊢
  have g : (f != 0) = true := by simp [h0]
  clear ef
  go_enter Tryd.func12, Tryd.ntmps12
  go_wp2_with (go_at_call 38; (with_reducible refine (hf _ (hR.on b0)).mono ?_); rintro e1 w1 ⟨rfl, hw⟩; subst w1)
  exact bodyPost_ret (v := .tuple #[.int .i64 0, .slice none 0 0, .int .i64 f]) (by simp [results, Tryd.results12, go_sem]) rfl ⟨rfl, b0⟩
theorem sums_bad (u : Value) (zs : List Int) (w : World) (hR : Rdz w u zs) (h0 : fau zs ≠ 0) :
    Calls Tryd.prog 11 #[u] w fun e w' => e = .returned (.tuple #[.slice none 0 0, .int .i64 (fau zs)]) ∧ w' = w := by
  have hf := fun w h => fault_any u zs w h
  obtain ⟨f, ef⟩ : ∃ f, fau zs = f := ⟨_, rfl⟩
  rw [ef] at hf h0 ⊢
  have g : (f != 0) = true := by simp [h0]
  clear ef
  go_enter Tryd.func11, Tryd.ntmps11
  go_wp2_with (go_at_call 38; (with_reducible refine (hf _ hR).mono ?_); rintro e1 w1 ⟨rfl, hw⟩; subst w1)
  exact bodyPost_ret (v := .tuple #[.slice none 0 0, .int .i64 f]) (by simp [results, Tryd.results11, go_sem]) rfl ⟨rfl, rfl⟩
end Go.Proofs.YtepcokgpepcccaaDoor
