/- nearer, whole. -/
import Derived.Test.YtampfciacjifgaaNea
namespace Go.Proofs.Ytampfciacjifgaa
open Go.ChangeShapes Go.WideShapes Go.ChangeAt Go.RowKit
set_option linter.unusedVariables false
set_option linter.unusedSimpArgs false

/-- Whether edge i leads from v nearer to the start. -/
def nr (l : List (Nat × Nat)) (f : Nat → Int) (v i : Nat) : Bool := match l[i]? with
  | some x => decide (f (oth x v) < f v)
  | none => false
set_option maxRecDepth 100000 in
set_option maxHeartbeats 4000000 in
theorem nearer_any (p : Option Addr) (l : List (Nat × Nat)) (n : Nat) (A : Nat → List Nat) (f : Nat → Int) (v k0 B D G cap : Nat) (w : World) (hG : Gra w p n l A B (.slice (some ⟨G, 0, none⟩) n n)) (hR : Row w D n f)
    (hA : ∀ i ∈ A v, ∃ x, l[i]? = some x ∧ (x.1 = v ∨ x.2 = v)) (hAl : (A v).length ≤ 4000) (hv : v < n) (hk : fst? (nr l f v) (A v) = some k0) {i0 : Nat} (hi0 : (A v)[k0]? = some i0) :
    Calls Try.prog 59 #[.agg #[.slice p l.length cap, .slice (some ⟨G, 0, none⟩) n n, .slice (some ⟨D, 0, none⟩) n n], .int .i64 v] w fun e w' => e = .returned (.int .i64 (i0 : Nat)) ∧ Below w.heap.size w w' := by
  have hn := hG.gr.2.2.1
  have hm := hG.gr.2.1
  obtain ⟨qa, ca, hL⟩ := hG.list hv
  have b1 := al1 w (.cells #[.slice p l.length cap, .slice (some ⟨G, 0, none⟩) n n, .slice (some ⟨D, 0, none⟩) n n] 76)
  have H1 := Has.new_ w 76 #[.slice p l.length cap, .slice (some ⟨G, 0, none⟩) n n, .slice (some ⟨D, 0, none⟩) n n]
  have e1 : (w.alloc (.cells #[.slice p l.length cap, .slice (some ⟨G, 0, none⟩) n n, .slice (some ⟨D, 0, none⟩) n n] 76)).heap.size = w.heap.size + 1 := by simp
  have b2 := al1 (w.alloc (.cells #[.slice p l.length cap, .slice (some ⟨G, 0, none⟩) n n, .slice (some ⟨D, 0, none⟩) n n] 76)) (.cells #[.int .i64 (v : Int)] 3)
  have H2 := Has.new_ (w.alloc (.cells #[.slice p l.length cap, .slice (some ⟨G, 0, none⟩) n n, .slice (some ⟨D, 0, none⟩) n n] 76)) 3 #[.int .i64 (v : Int)]
  rw [e1] at H2
  have H1' := Has.on H1 b2
  have b12 := b1.trans (b2.mono (by rw [e1]; omega))
  -- a test, in whatever world behind
  have hT : ∀ W1, W1 = ((w.alloc (.cells #[.slice p l.length cap, .slice (some ⟨G, 0, none⟩) n n, .slice (some ⟨D, 0, none⟩) n n] 76)).alloc (.cells #[.int .i64 (v : Int)] 3)) → ∀ i, i ∈ A v → ∀ W, Below W1.heap.size W1 W → Calls Try.prog 74 #[.int .i64 i, .pointer (some ⟨w.heap.size, 0, none⟩), .pointer (some ⟨w.heap.size + 1, 0, none⟩)] W fun e w' => e = .returned (.bool (nr l f v i)) ∧ Below W.heap.size W w' := by
    rintro W1 rfl i hi W hW
    obtain ⟨x, hx, hxv⟩ := hA i hi
    have hil : i < l.length := (List.getElem?_eq_some_iff.1 hx).1
    have hxe : l[i] = x := (List.getElem?_eq_some_iff.1 hx).2
    have bW : Below w.heap.size w W := b12.trans (hW.mono (by simp; omega))
    obtain ⟨a, rfl, d0, d1, l1, l2, ne⟩ := (hG.gr.on bW).at hil
    rw [hxe] at d0 d1 l1 l2 ne
    obtain ⟨x1, x2⟩ := x
    have hun : oth (x1, x2) v < n := by unfold oth; simp only; split <;> assumption
    have hRW := Has.on hR bW
    have k1 := Has.on H1' hW
    have k2 := Has.on H2 hW
    have t := test_any l.length cap n D a i x1 x2 v w.heap.size (w.heap.size + 1) (f (oth (x1, x2) v)) (f v) W ⟨k1.read 0, k1.read 2, k2.read 0, d0, d1, Row.read hRW hun, Row.read hRW hv⟩ hil hm hn hun hv
    have e : nr l f v i = decide (f (oth (x1, x2) v) < f v) := by unfold nr; rw [hx]
    rw [e]
    exact t
  have hT := hT _ rfl
  have bz : B ≤ w.heap.size := hG.z
  have hLw := hL _ (b12.mono bz)
  have r1 := H1'.read 1
  have r2 := H2.read 0
  have hI := idxf_any qa ca w.heap.size (w.heap.size + 1) (A v) (nr l f v) k0 _ hk (by omega) hLw.2 hT
  have cG := hLw.1
  obtain ⟨kl, kg, -⟩ := fst_get hk
  obtain ⟨gq, rfl, -⟩ := hLw.2 k0 kl
  have hkk : (A v)[k0] = i0 := by rw [List.getElem?_eq_getElem kl] at hi0; simpa using hi0
  have q1 : (0 : Int) ≤ (v : Int) := by omega
  have q2 : (v : Int) < (n : Int) := by omega
  have q3 : (0 : Int) ≤ (k0 : Int) := by omega
  have q4 : (k0 : Int) < ((A v).length : Int) := by omega
  have HL := Lib.hid hL
  have H1h := Lib.hid H1'
  have H2h := Lib.hid H2
  have Hk := Lib.hid hkk
  clear hL H1 H2 H1' hk hi0 hkk hLw kg
  go_enter Try.func59, Try.ntmps59
  go_wp2_with (go_at_call 68; (with_reducible refine hI.mono ?_); rintro e w1 ⟨rfl, hb⟩; have s1 := (Has.on H1h.out hb).read 1; have s2 := (Has.on H2h.out hb).read 0; have s3 := (HL.out w1 ((b12.mono bz).trans (hb.mono (by simp; omega)))); have s4 := s3.1; obtain ⟨gz, ez, s5⟩ := s3.2 k0 kl; clear s3)
  go_ret
  exact ⟨by rw [← Hk.out]; rfl, b12.trans (hb.mono (by simp; omega))⟩
end Go.Proofs.Ytampfciacjifgaa
