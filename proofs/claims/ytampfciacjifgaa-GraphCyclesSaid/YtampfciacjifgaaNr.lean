/- newReach. -/
import Derived.Test.YtampfciacjifgaaRep
namespace Go.Proofs.Ytampfciacjifgaa
open Go.ChangeShapes Go.WideShapes Go.ChangeAt Go.RowKit
set_option linter.unusedVariables false
set_option linter.unusedSimpArgs false

/-- What a search along edges reads: the edges, and those around each node; all of it below block B. -/
structure Gra (w : World) (p : Option Addr) (n : Nat) (l : List (Nat × Nat)) (A : Nat → List Nat) (B : Nat) (ve : Value) : Prop where
  ex : ∀ w', Below B w w' → Gr w' p n l ∧ Rdn w' ve ((List.range n).map A)
  z : B ≤ w.heap.size
  lt : ∀ g, ve.ownBlock = some g → g < B
theorem Gra.gr {w : World} {p : Option Addr} {n : Nat} {l : List (Nat × Nat)} {A : Nat → List Nat} {B : Nat} {ve : Value} (h : Gra w p n l A B ve) : Gr w p n l := (h.ex w (Below.refl _ _)).1
theorem Gra.rd {w : World} {p : Option Addr} {n : Nat} {l : List (Nat × Nat)} {A : Nat → List Nat} {B : Nat} {ve : Value} (h : Gra w p n l A B ve) : Rdn w ve ((List.range n).map A) := (h.ex w (Below.refl _ _)).2
theorem Gra.on {w w1 : World} {p : Option Addr} {n : Nat} {l : List (Nat × Nat)} {A : Nat → List Nat} {B : Nat} {ve : Value} (h : Gra w p n l A B ve) (hb : Below B w w1) : Gra w1 p n l A B ve :=
  ⟨fun w' h' => h.ex w' (hb.trans h'), Nat.le_trans h.z hb.size, h.lt⟩
/-- The edges around a node, in whatever world that is as it was below B. -/
theorem Gra.list {w : World} {p : Option Addr} {n G : Nat} {l : List (Nat × Nat)} {A : Nat → List Nat} {B : Nat} (h : Gra w p n l A B (.slice (some ⟨G, 0, none⟩) n n)) {y : Nat} (hy : y < n) :
    ∃ q c, ∀ w', Below B w w' → w'.cell? ⟨G, y, none⟩ = some (.slice q (A y).length c) ∧ ∀ j (hj : j < (A y).length), ∃ g, q = some ⟨g, 0, none⟩ ∧ w'.cell? ⟨g, j, none⟩ = some (.int .i64 ((A y)[j] : Nat)) := by
  have get : ∀ w', Below B w w' → ∃ u, w'.cell? ⟨G, y, none⟩ = some u ∧ Rdl w' u (A y) := fun w' hw => by
    obtain ⟨q1, c1, e1, kr⟩ := (h.ex w' hw).2
    obtain ⟨G', u, e2, cu, ru⟩ := kr y (by simpa using hy)
    simp only [Value.slice.injEq] at e1
    rw [← e1.1] at e2
    simp only [Option.some.injEq, Addr.mk.injEq, and_true] at e2
    subst e2
    exact ⟨u, cu, by simpa using ru⟩
  obtain ⟨u, cu, q, c, rfl, -⟩ := get w (Below.refl _ _)
  refine ⟨q, c, fun w' hw => ?_⟩
  obtain ⟨u', cu', q', c', rfl, kr⟩ := get w' hw
  have e := (hw.cell (p := ⟨G, y, none⟩) (h.lt G rfl)).trans cu
  rw [cu'] at e
  simp only [Option.some.injEq, Value.slice.injEq, true_and] at e
  obtain ⟨rfl, rfl⟩ := e
  exact ⟨cu', kr⟩
/-- Three stores into one block. -/
def put3 (w : World) (g : Nat) (a b c : Value) : World := ((w.setCell ⟨g, 0, none⟩ a).setCell ⟨g, 1, none⟩ b).setCell ⟨g, 2, none⟩ c
theorem put3_at (w : World) (g : Nat) (a b c : Value) : At g w (put3 w g a b c) := (((At.refl g w).put 0 a).put 1 b).put 2 c
theorem put3_has {w : World} {g : Nat} {t : TypeId} {x y z : Value} (h : Has w g t #[x, y, z]) (a b c : Value) : Has (put3 w g a b c) g t #[a, b, c] := ((Has.put_ h 0 a).put_ 1 b).put_ 2 c
theorem put3_both {w w1 : World} {g : Nat} {t : TypeId} {x y z : Value} (h : Has w g t #[x, y, z]) (hb : Below w.heap.size w w1) (a b c : Value) : Below (put3 w g a b c).heap.size (put3 w g a b c) (put3 w1 g a b c) := by
  have h1 := Has.on h hb
  have A := put3_at w g a b c
  have A1 := put3_at w1 g a b c
  refine ⟨A1.os.trans (hb.os.trans A.os.symm), A1.tape.trans (hb.tape.trans A.tape.symm), A1.output.trans (hb.output.trans A.output.symm), by rw [A.size, A1.size]; exact hb.size, fun k hk => ?_⟩
  by_cases e : k = g
  · subst e
    have e1 := put3_has h a b c
    have e2 := put3_has h1 a b c
    unfold Has at e1 e2
    rw [e1, e2]
  · rw [A.size] at hk
    rw [A1.block k e, A.block k e, hb.block k hk]
set_option maxRecDepth 100000 in
set_option maxHeartbeats 2000000 in
theorem newreach_any (p : Option Addr) (n : Nat) (l : List (Nat × Nat)) (cap : Nat) (vl : Value) (xs : List Nat) (w : World) (hG : Gr w p n l) (hl : Rdl w vl xs) (hx : ∀ i ∈ xs, i < l.length) (hxl : xs.length ≤ 4000) :
    Calls Try.prog 57 #[.int .i64 n, .slice p l.length cap, vl] w fun e w' => ∃ G D, e = .returned (.agg #[.slice p l.length cap, .slice (some ⟨G, 0, none⟩) n n, .slice (some ⟨D, 0, none⟩) n n]) ∧ w.heap.size ≤ D ∧
      Gra w' p n l (adj l xs) D (.slice (some ⟨G, 0, none⟩) n n) ∧ Row w' D n (fun _ => -1) ∧ Below w.heap.size w w' := by
  have hn := hG.2.2.1
  obtain ⟨q, c, rfl, k1⟩ := hl
  have K1 := Lib.hid k1
  clear k1
  go_enter Try.func57, Try.ntmps57
  go_wp2_with (first
    | (go_at_call 52; refine (around_any p n l cap _ xs _ (hG.on (al1 _ _)) (Rdl.on ⟨q, c, rfl, K1.out⟩ (al1 _ _)) hx hxl).mono ?_; rintro e w1 ⟨v, rfl, rfl, hN, hb⟩)
    | (go_at_call 73; refine (repeat_any (-1) _ n _ hn ((Has.new_ _ 3 #[.int .i64 (-1)]).read 0)).mono ?_; rintro e w2 ⟨rfl, hR, hb2⟩; have H1 : Has w1 w.heap.size 76 #[.slice none 0 0, .slice none 0 0, .slice none 0 0] := Has.on (Has.new_ _ _ _) hb; have H2 := Has.on (Has.on H1 (al1 _ _)) hb2; have c0 := H2.read 0; have c1 := H2.read 1; have c2 := H2.read 2; have f0 := H2.open_ 0; have f1 := H2.open_ 1; have f2 := H2.open_ 2))
  have b12 : Below w1.heap.size w1 w2 := (al1 w1 _).trans (hb2.mono (al1 w1 _).size)
  have hz : w.heap.size + 1 ≤ w1.heap.size := by have := H1.size_; omega
  have b01 : Below w.heap.size w w1 := (al1 w _).trans (hb.mono (al1 w (.cells #[.slice none 0 0, .slice none 0 0, .slice none 0 0] 76)).size)
  have hN1 : Nest (w.heap.size + 1) w1 (.slice (some ⟨w.heap.size + 1, 0, none⟩) n n) ((List.range n).map (adj l xs)) := by simpa using hN
  have key : ∀ a b c, Gra (put3 w2 w.heap.size a b c) p n l (adj l xs) (w1.heap.size + 1) (.slice (some ⟨w.heap.size + 1, 0, none⟩) n n) := fun a b c => by
    have P := put3_both H1 b12 a b c
    have z2 : w1.heap.size + 1 ≤ (put3 w2 w.heap.size a b c).heap.size := by
      rw [(put3_at w2 w.heap.size a b c).size]
      exact Nat.le_trans (by simp) hb2.size
    refine ⟨fun w' hw' => ⟨hG.on ?_, (Nest.on (hN1.at_ (put3_at w1 w.heap.size a b c) (by omega)) ?_).rd⟩, z2, fun g hg => by simp [Value.ownBlock] at hg; omega⟩
    · exact (b01.trans ((b12.mono (by omega)).trans ((put3_at w2 w.heap.size a b c).below (Nat.le_refl _)))).trans (hw'.mono (by omega))
    · exact P.trans (hw'.mono (by rw [(put3_at w1 w.heap.size a b c).size]; omega))
  have HP := put3_has H2 (.slice p l.length cap) (.slice (some ⟨w.heap.size + 1, 0, none⟩) n n) (.slice (some ⟨w1.heap.size + 1, 0, none⟩) n n)
  have r0 := HP.read 0
  have r1 := HP.read 1
  have r2 := HP.read 2
  have k := key (.slice p l.length cap) (.slice (some ⟨w.heap.size + 1, 0, none⟩) n n) (.slice (some ⟨w1.heap.size + 1, 0, none⟩) n n)
  have A := put3_at w2 w.heap.size (.slice p l.length cap) (.slice (some ⟨w.heap.size + 1, 0, none⟩) n n) (.slice (some ⟨w1.heap.size + 1, 0, none⟩) n n)
  have hR1 : Row w2 (w1.heap.size + 1) n (fun _ => -1) := by simpa using hR
  have hR2 := Has.at_ hR1 A (by omega)
  have hB2 : Below w.heap.size w (put3 w2 w.heap.size (.slice p l.length cap) (.slice (some ⟨w.heap.size + 1, 0, none⟩) n n) (.slice (some ⟨w1.heap.size + 1, 0, none⟩) n n)) := (b01.trans (b12.mono (by omega))).trans (A.below (Nat.le_refl _))
  show bodyPost Try.prog Try.f57 _ Exit.ret _ (put3 w2 w.heap.size (.slice p l.length cap) (.slice (some ⟨w.heap.size + 1, 0, none⟩) n n) (.slice (some ⟨w1.heap.size + 1, 0, none⟩) n n))
  generalize put3 w2 w.heap.size (.slice p l.length cap) (.slice (some ⟨w.heap.size + 1, 0, none⟩) n n) (.slice (some ⟨w1.heap.size + 1, 0, none⟩) n n) = w3 at *
  refine bodyPost_ret (v := .agg #[.slice p l.length cap, .slice (some ⟨w.heap.size + 1, 0, none⟩) n n, .slice (some ⟨w1.heap.size + 1, 0, none⟩) n n]) (by simp [results, Try.results57, go_sem, r0, r1, r2]) rfl ⟨w.heap.size + 1, w1.heap.size + 1, rfl, by omega, k, hR2, hB2⟩
end Go.Proofs.Ytampfciacjifgaa
