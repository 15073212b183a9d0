/- slices.Sort and slices.Clone of lists of the call's own. -/
import Derived.Test.YteofbbakegcohaaShf
import Derived.Test.YteofbbakegcohaaLst
namespace Go.Proofs.Yteofbbakegcohaa
open Go.ChangeShapes Go.WideShapes Go.ChangeAt Go.RowKit
set_option linter.unusedVariables false
set_option linter.unusedSimpArgs false


def srt (xs : List Nat) : List Nat := xs.mergeSort fun x y => decide (x ≤ y)
theorem srt_len (xs : List Nat) : (srt xs).length = xs.length := List.length_mergeSort _
theorem srt_mem (xs : List Nat) (x : Nat) : x ∈ srt xs ↔ x ∈ xs := List.mem_mergeSort
theorem sort_none (p : Option Addr) (cap : Nat) (w : World) : Calls Try.prog 61 #[.slice p 0 cap] w fun e w' => e = .returned (.tuple #[]) ∧ w' = w := Any.slices_Sort_int_none Try.lays189 p cap w
theorem sorted_cast (xs : List Nat) : (xs.map fun i : Nat => (i : Int)).mergeSort (fun x y => decide (x ≤ y)) = (xs.mergeSort fun x y => decide (x ≤ y)).map fun i : Nat => (i : Int) :=
  (List.map_mergeSort (fun a _ b _ => by simp)).symm
set_option maxRecDepth 10000 in
theorem sort_g (B : Nat) (v : Value) (xs : List Nat) (w : World) (h : Own B w v xs) (hs : xs.length ≤ 4000) :
    Calls Try.prog 61 #[v] w fun e w' => e = .returned (.tuple #[]) ∧ Own B w' v (srt xs) ∧ w.grownBy w' v.ownBlock := by
  by_cases hx : xs = []
  · subst hx
    obtain ⟨p, c, rfl, -⟩ := own_form h
    refine (sort_none p c w).mono ?_
    rintro e w' ⟨rfl, rfl⟩
    exact ⟨rfl, by simpa [srt] using h, rfl, rfl, rfl, Nat.le_refl _, fun _ _ _ => rfl⟩
  · have hpos : 0 < xs.length := List.length_pos_iff.2 hx
    have h0 := h
    obtain ⟨hl, ⟨-, h1⟩ | ⟨g, cap, cur, rfl, hBg, hg, hn, hcap, hsz, ht⟩⟩ := h
    · omega
    have hH : Sort.Holds (Value.int .i64) w g 0 (xs.map fun i : Nat => (i : Int)).toArray := fun j hj => by
      have hj' : j < xs.length := by simpa using hj
      rw [Nat.zero_add]
      refine ⟨?_, Has.open_ hg j⟩
      rw [Own.cell h0 rfl hj']
      simp [hj']
    have hlt := Has.size_ hg
    have hr := Try.slices_Sort_int g 0 cap (xs.map fun i : Nat => (i : Int)) w hH hlt (by simp; omega)
    rw [List.length_map] at hr
    refine hr.mono ?_
    rintro e w' ⟨rfl, n, os, rfl⟩
    have hh : (Sort.grow (Sort.putRow (Value.int .i64) (Sort.ahead w n) g 0 ((xs.map fun i : Nat => (i : Int)).mergeSort fun x y => decide (x ≤ y)).toArray) os).heap = w.heap.modify g (Sort.onCells (Sort.putCells (Value.int .i64) 0 ((xs.map fun i : Nat => (i : Int)).mergeSort fun x y => decide (x ≤ y)).toArray)) ++ os := rfl
    have hsize : (w.heap.modify g (Sort.onCells (Sort.putCells (Value.int .i64) 0 ((xs.map fun i : Nat => (i : Int)).mergeSort fun x y => decide (x ≤ y)).toArray))).size = w.heap.size := by simp
    refine ⟨rfl, ⟨by simp [ints, srt], .inr ⟨g, cap, Sort.putCells (Value.int .i64) 0 ((xs.map fun i : Nat => (i : Int)).mergeSort fun x y => decide (x ≤ y)).toArray cur, by simp [srt], hBg, ?_, by simpa [srt] using hn, hcap, by simp [Sort.putCells, hsz], ?_⟩⟩, ⟨rfl, rfl, rfl, ?_, fun k hk hkg => ?_⟩⟩
    · rw [hh, Array.getElem?_append_left (by omega), Array.getElem?_modify, if_pos rfl, hg]
      rfl
    · have hc : cur.size = cap := by simpa using hsz
      rw [sorted_cast]
      apply List.ext_getElem
      · simp [Sort.putCells, ints, srt]; omega
      · intro i a b
        have hi : i < xs.length := by simpa [ints, srt] using b
        simp [Sort.putCells, ints, hi, srt]
    · rw [hh, Array.size_append, hsize]; omega
    · rw [hh, Array.getElem?_append_left (by omega), Array.getElem?_modify, if_neg (by intro e; exact hkg (by rw [e]; rfl))]
/-- One of the lists is turned in its own block. -/
theorem Nest.turn {B i : Nat} {w w1 : World} {v u : Value} {vs : List Value} {ls : List (List Nat)} {ys : List Nat} (o : w.ownsRow B 23 1 v ls.length vs) (I : Inn B w v.ownBlock vs ls)
    (hu : vs[i]? = some u) (hi : i < ls.length) (h1 : Own B w1 u ys) (hg : w.grownBy w1 u.ownBlock) : w1.ownsRow B 23 1 v (ls.set i ys).length vs ∧ Inn B w1 v.ownBlock vs (ls.set i ys) := by
  have o2 : w1.ownsRow B 23 1 v ls.length vs := by
    refine World.ownsRow.kept o hg ?_
    cases e : v.ownBlock with
    | none => exact .inl rfl
    | some b =>
      refine .inr fun e2 => ?_
      exact I.out i u b hu e2.symm e
  refine ⟨by rw [List.length_set]; exact o2, by simp [I.len], ?_, I.dis, I.out⟩
  intro j y xs hj hx
  rw [List.getElem?_set] at hx
  by_cases e : i = j
  · subst e
    rw [if_pos rfl, if_pos hi] at hx
    rw [hu] at hj
    simp at hj hx
    subst hj hx
    exact h1
  · rw [if_neg e] at hx
    refine World.ownsRow.kept (I.own j y xs hj hx) hg ?_
    cases ey : y.ownBlock with
    | none => exact .inl rfl
    | some b => exact .inr fun e2 => I.dis j i y u b (Ne.symm e) hj hu ey e2.symm
theorem clone_any (v : Value) (xs : List Nat) (w : World) (h : Rdl w v xs) (hs : xs.length ≤ 100000) :
    Calls Try.prog 26 #[v] w fun e w' => ∃ v', e = .returned v' ∧ Own w.heap.size w' v' xs ∧ Below w.heap.size w w' := by
  obtain ⟨q, c, rfl, k⟩ := h
  cases xs with
  | nil =>
    cases q with
    | none =>
      refine (Try.slices_Clone_int_nil 0 c w).mono ?_
      rintro e w' ⟨rfl, rfl⟩
      exact ⟨_, rfl, World.ownsRow_nil _ _ _ _, Below.refl _ _⟩
    | some a =>
      refine (Try.slices_Clone_int_zero a c w).mono ?_
      rintro e w' ⟨v', rfl, h1, -, h2⟩
      exact ⟨_, rfl, h1, h2⟩
  | cons x t =>
    obtain ⟨g, rfl, -⟩ := k 0 (by simp)
    have hl : (toZ (x :: t)).length = (x :: t).length := toZ_len _
    have hc : ∀ j, j < (toZ (x :: t)).length → w.cell? ⟨g, 0 + j, none⟩ = some (.int .i64 ((toZ (x :: t)).getD j 0)) := fun j hj => by
      rw [hl] at hj
      obtain ⟨g', e, hc⟩ := k j hj
      cases e
      rw [Nat.zero_add, hc, List.getD_eq_getElem?_getD]
      unfold toZ
      rw [List.getElem?_map, List.getElem?_eq_getElem hj]
      rfl
    refine (Try.slices_Clone_int g 0 (x :: t).length c (toZ (x :: t)) w (by rw [hl]; exact Nat.le_refl _) (by omega) hc).mono ?_
    rintro e w' ⟨v', rfl, h1, -, h2⟩
    refine ⟨_, rfl, ?_, h2⟩
    rw [List.take_of_length_le (by rw [hl]; exact Nat.le_refl _)] at h1
    unfold Own
    have e : (toZ (x :: t)).map (Value.int .i64) = ints (x :: t) := by unfold toZ ints; rw [List.map_map]; rfl
    rw [e] at h1
    exact h1
end Go.Proofs.Yteofbbakegcohaa
