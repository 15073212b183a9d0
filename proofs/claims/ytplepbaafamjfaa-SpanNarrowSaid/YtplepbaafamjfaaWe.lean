/- Contracts of the numbers of two words: order, sign, plus, modulo, over. -/
import Derived.Test.YtplepbaafamjfaaWd
import Derived.Deep.RegionHeld3
namespace Go.Proofs.Ytplepbaafamjfaa
open Go.ChangeShapes Go.WideShapes Go.ChangeAt Go.RowKit Go.Shelf
set_option linter.unusedVariables false

theorem order_ab (x y : Int) : orI (cmpI (wH x) (wH y)) (cmpI (wL x) (wL y)) = cmpI (ab x) (ab y) := by
  have h1 := wHL x
  have h2 := wHL y
  have h3 := wL_b x
  have h4 := wL_b y
  generalize wH x = a at *
  generalize wH y = b at *
  generalize wL x = c at *
  generalize wL y = d at *
  rw [← h1, ← h2]
  unfold orI cmpI
  repeat' split
  all_goals omega

theorem has3 (w : World) (t1 t2 t3 : TypeId) (a b c : Array Value) : Has (((w.alloc (.cells a t1)).alloc (.cells b t2)).alloc (.cells c t3)) w.heap.size t1 a ∧ Has (((w.alloc (.cells a t1)).alloc (.cells b t2)).alloc (.cells c t3)) (w.heap.size + 1) t2 b ∧ Has (((w.alloc (.cells a t1)).alloc (.cells b t2)).alloc (.cells c t3)) (w.heap.size + 1 + 1) t3 c ∧ (((w.alloc (.cells a t1)).alloc (.cells b t2)).alloc (.cells c t3)).heap.size = w.heap.size + 3 := by
  have s1 : (w.alloc (.cells a t1)).heap.size = w.heap.size + 1 := by simp
  have s2 : ((w.alloc (.cells a t1)).alloc (.cells b t2)).heap.size = w.heap.size + 1 + 1 := by simp
  have h1 := (((Has.new_ w t1 a).alloc_ (.cells b t2)).alloc_ (.cells c t3))
  have h2 := ((Has.new_ (w.alloc (.cells a t1)) t2 b).alloc_ (.cells c t3))
  have h3 := Has.new_ ((w.alloc (.cells a t1)).alloc (.cells b t2)) t3 c
  rw [s1] at h2; rw [s2] at h3
  exact ⟨h1, h2, h3, by simp⟩

theorem ab_add_same {x y : Int} (h : wS x = wS y) : ab (x + y) = ab x + ab y ∧ wS (x + y) = wS x := by
  unfold wS at *
  have : (x < 0) ↔ (y < 0) := by simpa using h
  constructor
  · unfold ab; omega
  · rw [Bool.eq_iff_iff]; simp; omega

end Go.Proofs.Ytplepbaafamjfaa
