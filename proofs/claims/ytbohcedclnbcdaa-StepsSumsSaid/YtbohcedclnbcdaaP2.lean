/- Sort of three numbers; sums over ranges. -/
import Derived.Test.YtbohcedclnbcdaaP1
import Derived.Test.YtbohcedclnbcdaaShf
namespace Go.Proofs.Ytbohcedclnbcdaa
open Go.ChangeShapes Go.WideShapes Go.ChangeAt Go.RowKit
set_option linter.unusedVariables false
set_option linter.unusedSimpArgs false

theorem sort3 (g : Nat) (x y z : Int) (w : World) (h : Has w g 3 #[.int .i64 x, .int .i64 y, .int .i64 z]) :
    Calls Try.prog 31 #[.slice (some ⟨g, 0, none⟩) 3 3] w fun e w' => e = .returned (.tuple #[]) ∧ ∃ u v t, u ≤ v ∧ v ≤ t ∧ Has w' g 3 #[.int .i64 u, .int .i64 v, .int .i64 t] ∧ Below g w w' := by
  have hH : Sort.Holds (Value.int .i64) w g 0 [x, y, z].toArray := fun j hj => by
    have hj' : j < 3 := by simpa using hj
    rw [Nat.zero_add]
    refine ⟨?_, h.open_ j⟩
    rw [h.read j]
    rcases (by omega : j = 0 ∨ j = 1 ∨ j = 2) with rfl | rfl | rfl <;> rfl
  refine (Try.slices_Sort_int g 0 3 [x, y, z] w hH h.size_ (by simp)).mono ?_
  rintro e w' ⟨rfl, n, os, rfl⟩
  have hp : ([x, y, z].mergeSort fun x y => decide (x ≤ y)).Pairwise (fun a b => decide (a ≤ b) = true) := List.pairwise_mergeSort (by simp; omega) (by simp; omega) _
  have hl : ([x, y, z].mergeSort fun x y => decide (x ≤ y)).length = 3 := List.length_mergeSort ..
  generalize ([x, y, z].mergeSort fun x y => decide (x ≤ y)) = S at *
  match S, hl, hp with
  | [u, v, t], _, hp =>
    simp at hp
    refine ⟨rfl, u, v, t, hp.1.1, hp.2, ?_, ⟨rfl, rfl, rfl, ?_, fun k hk => ?_⟩⟩
    · have hlt := h.size_
      unfold Has
      show ((w.heap.modify g (Sort.onCells (Sort.putCells (Value.int .i64) 0 [u, v, t].toArray))) ++ os)[g]? = _
      rw [Array.getElem?_append_left (by simp; exact hlt), Array.getElem?_modify, if_pos rfl, h]
      rfl
    · show w.heap.size ≤ ((w.heap.modify g (Sort.onCells (Sort.putCells (Value.int .i64) 0 [u, v, t].toArray))) ++ os).size
      simp
    · have hlt := h.size_
      show ((w.heap.modify g (Sort.onCells (Sort.putCells (Value.int .i64) 0 [u, v, t].toArray))) ++ os)[k]? = _
      rw [Array.getElem?_append_left (by simp; omega), Array.getElem?_modify, if_neg (by omega)]
/-- One number more in a range. -/
theorem smP_next {l : List Stp} (h : OkS l) {fr tz : Int} (hft : fr ≤ tz) (k : Nat) (hk : k ≤ l.length) :
    smP l fr (tz + 1) k = smP l fr tz k + (if k < l.length ∧ (l.getD k (0, 0)).1 ≤ tz then 0 else va (l.take k) tz) := by
  induction k with
  | zero =>
    simp only [smP, List.take_zero]
    split
    · rfl
    · rfl
  | succ k ih =>
    have hk' : k < l.length := by omega
    have i := ih (by omega)
    rw [smP, smP, i, va_take hk']
    have hdk : (l.getD k (0, 0)).1 = l[k].1 := by rw [gdS hk']
    rw [hdk]
    have key : ∀ d : Int, max (en l (tz + 1) k - max l[k].1 fr) 0 = max (en l tz k - max l[k].1 fr) 0 + d → tm l fr (tz + 1) k = tm l fr tz k + l[k].2 * d := fun d hd => by
      rw [tm_val hk' rfl rfl rfl, tm_val hk' rfl rfl rfl, hd, Int.mul_add]
    by_cases h2 : k + 1 < l.length
    · have ha := List.pairwise_iff_getElem.1 h.asc k (k + 1) hk' h2 (by omega)
      rw [gdS h2]
      have e1 : en l (tz + 1) k = min (tz + 1) l[k + 1].1 := by rw [en, if_pos h2, gdS h2]
      have e2 : en l tz k = min tz l[k + 1].1 := by rw [en, if_pos h2, gdS h2]
      by_cases c1 : l[k].1 ≤ tz
      · rw [if_pos ⟨hk', c1⟩, if_pos c1]
        by_cases c2 : l[k + 1].1 ≤ tz
        · rw [if_pos ⟨h2, c2⟩, key 0 (by rw [e1, e2]; omega)]
          omega
        · rw [if_neg (fun h => c2 h.2), key 1 (by rw [e1, e2]; omega)]
          omega
      · have c2 : ¬ l[k + 1].1 ≤ tz := by omega
        rw [if_neg (fun h => c1 h.2), if_neg c1, if_neg (fun h => c2 h.2), key 0 (by rw [e1, e2]; omega)]
        omega
    · have e1 : en l (tz + 1) k = tz + 1 := by rw [en, if_neg h2]
      have e2 : en l tz k = tz := by rw [en, if_neg h2]
      by_cases c1 : l[k].1 ≤ tz
      · rw [if_pos ⟨hk', c1⟩, if_neg (fun h => h2 h.1), if_pos c1, key 1 (by rw [e1, e2]; omega)]
        omega
      · rw [if_neg (fun h => c1 h.2), if_neg (fun h => h2 h.1), if_neg c1, key 0 (by rw [e1, e2]; omega)]
        omega
theorem smT_next {l : List Stp} (h : OkS l) {fr tz : Int} (hft : fr ≤ tz) : smT l fr (tz + 1) = smT l fr tz + va l tz := by
  unfold smT
  rw [smP_next h hft _ (Nat.le_refl _), if_neg (fun h => Nat.lt_irrefl _ h.1), List.take_length]
theorem smT_zero {l : List Stp} (h : OkS l) {fr : Int} (hf : plc fr = true) : smT l fr fr = 0 := by
  have := smP_bound h hf hf (Int.le_refl _) l.length (Nat.le_refl _)
  rw [if_neg (Nat.lt_irrefl _)] at this
  unfold smT; omega
/-- A sum of n values. -/
def sg (f : Int → Int) (x : Int) : Nat → Int
  | 0 => 0
  | n + 1 => sg f x n + f (x + n)
theorem smT_sg {l : List Stp} (h : OkS l) {fr : Int} (hf : plc fr = true) (n : Nat) : smT l fr (fr + n) = sg (va l) fr n := by
  induction n with
  | zero => simpa [sg] using smT_zero h hf
  | succ n ih =>
    rw [show fr + ((n + 1 : Nat) : Int) = (fr + n) + 1 by omega, smT_next h (by omega), ih, sg]
theorem sg_add (f : Int → Int) (x : Int) (m n : Nat) : sg f x (m + n) = sg f x m + sg f (x + m) n := by
  induction n with
  | zero => simp [sg]
  | succ n ih =>
    rw [← Nat.add_assoc, sg, sg, ih, show x + ((m + n : Nat) : Int) = x + m + n by omega, Int.add_assoc]
theorem sg_plus (f g h : Int → Int) (x : Int) (n : Nat) (e : ∀ y, h y = f y + g y) : sg h x n = sg f x n + sg g x n := by
  induction n with
  | zero => rfl
  | succ n ih => rw [sg, sg, sg, ih, e]; omega
theorem sm_parts {l : List Stp} (h : OkS l) {u v t : Int} (hu : plc u = true) (hv : plc v = true) (h1 : u ≤ v) (h2 : v ≤ t) : smT l u t = smT l u v + smT l v t := by
  obtain ⟨m, rfl⟩ : ∃ m : Nat, v = u + m := ⟨(v - u).toNat, by omega⟩
  obtain ⟨n, rfl⟩ : ∃ n : Nat, t = u + m + n := ⟨(t - (u + m)).toNat, by omega⟩
  rw [smT_sg h hu, smT_sg h hv, show u + (m : Int) + n = u + ((m + n : Nat) : Int) by omega, smT_sg h hu, sg_add]
theorem sm_one {l : List Stp} (h : OkS l) {u : Int} (hu : plc u = true) : smT l u (u + 1) = va l u := by
  have := smT_sg h hu 1
  rw [show ((1 : Nat) : Int) = 1 from rfl] at this
  rw [this]; simp [sg]
theorem sm_sum {la lb s : List Stp} (oa : OkS la) (ob : OkS lb) (os : OkS s) (e : ∀ y, va s y = va la y + va lb y) {u t : Int} (hu : plc u = true) (h : u ≤ t) : smT s u t = smT la u t + smT lb u t := by
  obtain ⟨m, rfl⟩ : ∃ m : Nat, t = u + m := ⟨(t - u).toNat, by omega⟩
  rw [smT_sg oa hu, smT_sg ob hu, smT_sg os hu]
  exact sg_plus _ _ _ _ _ e
end Go.Proofs.Ytbohcedclnbcdaa
