/- The contract of around: the least span that contains all of these. -/
import Derived.Test.YtplepbaafamjfaaV2
namespace Go.Proofs.Ytplepbaafamjfaa
open Go.ChangeShapes Go.WideShapes Go.ChangeAt Go.RowKit
set_option linter.unusedVariables false
set_option linter.unusedSimpArgs false

def arF (l : List (Int × Int)) (x : Int × Int) : Int × Int := l.foldl (fun p q => (mn p.1 q.1, mx p.2 q.2)) x
theorem arF_snoc (l : List (Int × Int)) (x : Int × Int) (k : Nat) (h : k < l.length) : arF (l.take (k + 1)) x = (mn (arF (l.take k) x).1 l[k].1, mx (arF (l.take k) x).2 l[k].2) := by
  unfold arF
  rw [List.take_succ_eq_append_getElem h, List.foldl_append]; rfl

theorem mn_if (p q : Int) : mn p q = if q < p then q else p := by unfold mn; split <;> split <;> omega
theorem mx_if (p q : Int) : mx p q = if p < q then q else p := by unfold mx; split <;> split <;> omega
theorem env_set {w wr : World} {g h : Nat} {t u : TypeId} {a b c d : Int} (E : Env w wr [⟨h, t, a, b⟩, ⟨g, u, c, d⟩]) (hg : w.heap.size ≤ g) (hne : h ≠ g) (x y : Int) :
    Env w ((wr.setCell ⟨g, 0, none⟩ (.int .i64 x)).setCell ⟨g, 1, none⟩ (.int .i64 y)) [⟨h, t, a, b⟩, ⟨g, u, x, y⟩] :=
  ⟨(E.1.setCell hg _).setCell hg _, (E.2.1.apart_ hne _).apart_ hne _, (E.2.2.1.put_ 0 _).put_ 1 _, trivial⟩

set_option maxHeartbeats 1000000 in
theorem around_any (x y : Int) (l : List (Int × Int)) (g o n cap : Nat) (w : World) (hn : n ≤ 3) (hl : Hid (l.length = n)) (hg : g < w.heap.size)
    (hc : Hid (∀ k, (h : k < l.length) → w.cell? ⟨g, o + k * 2, none⟩ = some (.int .i64 l[k].1) ∧ w.cell? ⟨g, o + k * 2 + 1, none⟩ = some (.int .i64 l[k].2))) :
    Calls Try.prog 46 #[.agg #[.int .i64 x, .int .i64 y], .slice (some ⟨g, o, none⟩) n cap] w fun e w' => e = .returned (.agg #[.int .i64 (arF l (x, y)).1, .int .i64 (arF l (x, y)).2]) ∧ Below w.heap.size w w' := by
  go_enter Try.func46, Try.ntmps46
  go_wp2
  go_loopw [9] (fun s wr => ∃ k : Nat, k ≤ n ∧ s = .int .i64 k ∧ Env w wr [⟨w.heap.size + 1, 23, 0, 0⟩, ⟨w.heap.size, 23, (arF (l.take k) (x, y)).1, (arF (l.take k) (x, y)).2⟩]) (fun s _ => n - (intOf s).toNat)
  case atStart => exact ⟨0, by omega, rfl, env_two w x y 0 0 23 23⟩
  case round =>
    obtain ⟨k, hk, rfl, E⟩ := hrel
    have C := E.cells
    simp only [BC] at C
    by_cases hlt : k < n
    · have hk' : k < l.length := by rw [hl.out]; exact hlt
      have hs := arF_snoc l (x, y) k hk'
      obtain ⟨q0, q1⟩ := hc.out k hk'
      have q0' : wr.cell? ⟨g, o + k * 2, none⟩ = some (.int .i64 l[k].1) := by rw [← q0]; exact E.1.cell (p := ⟨g, o + k * 2, none⟩) hg
      have q1' : wr.cell? ⟨g, o + k * 2 + 1, none⟩ = some (.int .i64 l[k].2) := by rw [← q1]; exact E.1.cell (p := ⟨g, o + k * 2 + 1, none⟩) hg
      clear q0 q1
      generalize l[k].1 = ql at *
      generalize l[k].2 = qh at *
      generalize (arF (l.take k) (x, y)).1 = pl at *
      generalize (arF (l.take k) (x, y)).2 = ph at *
      have HS := Lib.hid hs; clear hs
      go_wp2
      go_roundw
      case rel => exact ⟨k + 1, by omega, by go_num, by rw [HS.out]; simp only; rw [mn_if, mx_if]; exact (env_set E (by omega) (by omega) _ _).more _⟩
      case measure => simp [intOf]; omega
    · have : k = n := by omega
      subst this
      have he : l.take k = l := List.take_of_length_le (by rw [hl.out]; omega)
      rw [he] at E C
      clear he hlt hk
      obtain ⟨pl, e1⟩ : ∃ p, (arF l (x, y)).1 = p := ⟨_, rfl⟩
      obtain ⟨ph, e2⟩ : ∃ p, (arF l (x, y)).2 = p := ⟨_, rfl⟩
      rw [e1, e2] at E C
      have H1 := Lib.hid e1; clear e1
      have H2 := Lib.hid e2; clear e2
      go_wp2
      refine bodyPost_ret (v := .agg #[.int .i64 pl, .int .i64 ph]) (by simp [results, Try.results46, go_sem, C]) rfl ⟨by rw [H1.out, H2.out], ?_⟩
      exact (E.1.setCell (by simp) _).setCell (by simp) _
end Go.Proofs.Ytplepbaafamjfaa
