/- SubsetsOrder: what its walk calls. -/
import Derived.Test.YtepcokgpepcccaaDoorOr0
import Derived.Test.YtepcokgpepcccaaDoorCl0
import Derived.Test.YtepcokgpepcccaaDoorLawP
namespace Go.Proofs.YtepcokgpepcccaaDoor
open Go.ChangeShapes Go.WideShapes Go.ChangeAt Go.RowKit
set_option linter.unusedVariables false
set_option linter.unusedSimpArgs false

theorem reverse_own (B : Nat) (v : Value) (zs : List Int) (w : World) (h : OwnZ B w v zs) (hl : zs.length ≤ 1000) :
    Calls Tryd.prog 37 #[v] w fun e w' => e = .returned (.tuple #[]) ∧ OwnZ B w' v zs.reverse ∧ w.grownBy w' v.ownBlock := by
  have hl' : zs.reverse.length = zs.length := List.length_reverse
  by_cases h0 : zs = []
  · subst h0
    obtain ⟨q, c, rfl, -⟩ := h.cell
    refine (Tryd.slices_Reverse_int_empty q c w).mono ?_
    rintro e w' ⟨rfl, rfl⟩
    exact ⟨rfl, h, ⟨rfl, rfl, rfl, Nat.le_refl _, fun _ _ _ => rfl⟩⟩
  · have h2 := h
    obtain ⟨hn, ⟨-, e⟩ | ⟨g, cap, cur, rfl, hBg, hg, hn1, -⟩⟩ := h2
    · exact absurd (List.length_eq_zero_iff.1 e) h0
    · refine (Tryd.slices_Reverse_int g 0 cap zs w h.holds (by omega)).mono ?_
      rintro e w' ⟨rfl, n, rfl⟩
      refine ⟨rfl, (h.lay (w' := Sort.putRow (Value.int .i64) (Sort.ahead w n) g 0 zs.reverse.toArray) (us := zs.reverse) ⟨#[], by rw [Array.append_empty]; rfl⟩ ⟨rfl, rfl, rfl⟩ (by rw [← hl', List.take_length]) hl'.symm hn1 (by omega)).1, ⟨rfl, rfl, rfl, by simp [Sort.putRow, Sort.mapBlock, Sort.ahead], fun k hk hne => ?_⟩⟩
      have : g ≠ k := fun e => hne (by simp [Value.ownBlock, e])
      simp [Sort.putRow, Sort.mapBlock, Sort.ahead, Array.getElem?_modify, this]
theorem OwnZ.kept {B : Nat} {w w' : World} {v : Value} {zs : List Int} {row : Option Nat} (h : OwnZ B w v zs) (hg : w.grownBy w' row) (hne : ∀ b, v.ownBlock = some b → row ≠ some b) : OwnZ B w' v zs := by
  refine World.ownsRow.kept h hg ?_
  cases e : v.ownBlock with
  | none => exact .inl rfl
  | some b => exact .inr (Ne.symm (hne b e))
def negp (k : Nat) (zs : List Int) : List Int := (zs.take k).map (fun x => -x) ++ zs.drop k
theorem negp_len (k : Nat) (zs : List Int) : (negp k zs).length = zs.length := by simp [negp]; omega
theorem negp_zero (zs : List Int) : negp 0 zs = zs := by simp [negp]
theorem negp_all (zs : List Int) : negp zs.length zs = ngl zs := by simp [negp, ngl]
theorem negp_at (k : Nat) (zs : List Int) (h : k < zs.length) (h2 : k < (negp k zs).length) : (negp k zs)[k] = zs[k] := by
  simp only [negp]
  rw [List.getElem_append_right (by simp; omega)]
  simp [Nat.min_eq_left (Nat.le_of_lt h)]
theorem negp_set (k : Nat) (zs : List Int) (h : k < zs.length) : (negp k zs).set k (- zs[k]) = negp (k + 1) zs := by
  apply List.ext_getElem
  · rw [List.length_set, negp_len, negp_len]
  · intro i a b
    rw [List.length_set, negp_len] at a
    rw [List.getElem_set]
    simp only [negp]
    by_cases e : k = i
    · subst e
      rw [if_pos rfl, List.getElem_append_left (by simp; omega)]
      simp
    · rw [if_neg e]
      rcases Nat.lt_or_ge i k with l | l
      · rw [List.getElem_append_left (by simp; omega), List.getElem_append_left (by simp; omega)]
        simp
      · rw [List.getElem_append_right (by simp; omega), List.getElem_append_right (by simp; omega)]
        simp only [List.length_map, List.length_take, List.getElem_drop]
        congr 1
        omega
theorem OwnZ.put {B g n cap k : Nat} {w : World} {zs ys : List Int} {z : Int} (h : OwnZ B w (.slice (some ⟨g, 0, none⟩) n cap) zs) (hn : n = zs.length) (he : zs.set k z = ys) : OwnZ B (w.setCell ⟨g, k, none⟩ (.int .i64 z)) (.slice (some ⟨g, 0, none⟩) n cap) ys ∧ w.grownBy (w.setCell ⟨g, k, none⟩ (.int .i64 z)) (some g) := by
  subst hn
  have o := World.ownsRow.stored h k (.int .i64 z)
  refine ⟨?_, o.2⟩
  unfold OwnZ
  rw [← he, List.length_set, show zv (zs.set k z) = (zv zs).set k (.int .i64 z) by simp [zv, List.map_set]]
  exact o.1
theorem parts_yes (u : Value) (zs : List Int) (w : World) (hR : Rdz w u zs) (hT : Tab w) (h0 : fau zs = 0) (hl : zs.length ≤ 10) (hz : SF zs (allS zs) = 0) :
    Calls Tryd.prog 24 #[u] w fun e w' => ∃ ps q c, e = .returned (.tuple #[.slice q ps.length c, .int .i64 0]) ∧ Hid (Pts (SF zs) (MF zs) (allS zs) ps) ∧ Rdzz w' (.slice q ps.length c) (lists ps) ∧ ps.length = MF zs (allS zs) ∧ Below w.heap.size w w' :=
  (parts_any u zs w hR hT fun _ => hl).mono fun e w' ⟨hb, _, _, k⟩ => by
    obtain ⟨ps, vs, v, hp, he, hn⟩ := k h0 hz
    have hr := hn.rd
    have hr2 := hr
    obtain ⟨q, c, e2, -⟩ := hr2
    have hll : (lists ps).length = ps.length := by simp [lists]
    rw [hll] at e2
    subst e2
    exact ⟨ps, q, c, he, Lib.hid hp, hr, pts_len hl hp (by unfold allS; have := Nat.two_pow_pos zs.length; omega) hz, hb⟩
theorem parts_no (u : Value) (zs : List Int) (w : World) (hR : Rdz w u zs) (hT : Tab w) (h0 : fau zs = 0) (hl : zs.length ≤ 10) (hz : SF zs (allS zs) ≠ 0) :
    Calls Tryd.prog 24 #[u] w fun e w' => e = .returned (.tuple #[.slice none 0 0, .int .i64 18]) ∧ Below w.heap.size w w' :=
  (parts_any u zs w hR hT fun _ => hl).mono fun e w' ⟨hb, _, k, _⟩ => ⟨k h0 hz, hb⟩
theorem fau_of {zs ys : List Int} (h : fau zs = 0) (hl : ys.length ≤ 16) (hm : ∀ x ∈ ys, okZ x = true) : fau ys = 0 := by
  unfold fau allZ
  rw [if_neg (by omega), if_pos (List.all_eq_true.2 hm)]
theorem fau_all {zs : List Int} (h : fau zs = 0) : ∀ x ∈ zs, okZ x = true := List.all_eq_true.1 (fau_zero h).2
theorem fau_rev {zs : List Int} (h : fau zs = 0) : fau zs.reverse = 0 :=
  fau_of h (by rw [List.length_reverse]; exact (fau_zero h).1) fun x hx => fau_all h x (List.mem_reverse.1 hx)
theorem fau_ngl {zs : List Int} (h : fau zs = 0) : fau (ngl zs) = 0 :=
  fau_of h (by rw [ngl_len]; exact (fau_zero h).1) fun x hx => by
    obtain ⟨y, hy, rfl⟩ := List.mem_map.1 hx
    have := fau_all h y hy
    unfold okZ at this ⊢
    simp only [Bool.and_eq_true, decide_eq_true_eq] at this ⊢
    omega
theorem fau_plus2 {zs : List Int} {m : Int} (h : fau zs = 0) (hl : zs.length ≤ 8) (h1 : 0 ≤ m) (h2 : m ≤ 4294967295) : fau (plus2 zs m) = 0 :=
  fau_of h (by rw [plus2_len]; omega) fun x hx => by
    rcases List.mem_append.1 hx with k | k
    · exact fau_all h x k
    · have : x = m ∨ x = -m := by simpa using k
      unfold okZ
      simp only [Bool.and_eq_true, decide_eq_true_eq]
      omega
end Go.Proofs.YtepcokgpepcccaaDoor
