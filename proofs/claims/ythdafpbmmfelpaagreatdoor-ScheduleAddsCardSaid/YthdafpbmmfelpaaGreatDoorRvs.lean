/- slices.Reverse of bars. -/
import Derived.Test.YthdafpbmmfelpaaGreatDoorRd
import Derived.Shelf.SlicesQ.Reverse
namespace Go.Proofs
def Tryz.rev_ren : Go.Shelf.Ren := ⟨fun | 35 => 30 | x => x, fun | 22 => 22 | 23 => 60 | x => x, fun x => x⟩
theorem Tryz.revB : Go.Proofs.SlLaysE0.n35 Tryz.prog Tryz.rev_ren := {
  mixed := by kernel_rfl
  f35 := ⟨"slices.Reverse[[]stirrup/api.Bar,stirrup/api.Bar]", by decide, Tryz.func30.trans (congrArg some (by kernel_rfl))⟩
  t0 := Tryz.underlying0
  a0 := Tryz.isAgg0
  z0 := Tryz.sizeOf0
  v0 := Tryz.zeroValue0
  t3 := Tryz.underlying3
  a3 := Tryz.isAgg3
  z3 := Tryz.sizeOf3
  v3 := Tryz.zeroValue3
  t4 := Tryz.underlying4
  a4 := Tryz.isAgg4
  z4 := Tryz.sizeOf4
  v4 := Tryz.zeroValue4
  t22 := Tryz.underlying22
  a22 := Tryz.isAgg22
  z22 := Tryz.sizeOf22
  v22 := Tryz.zeroValue22 }
end Go.Proofs
namespace Go.Proofs.YthdafpbmmfelpaaGreatDoor
open Go.ChangeShapes Go.WideShapes Go.ChangeAt Go.RowKit Go.Sort
set_option linter.unusedVariables false
set_option linter.unusedSimpArgs false

instance : Inhabited Bar := ⟨⟨⟨#[]⟩, 0, 0, 0, none, [], 0⟩⟩
theorem flatK_at (l : List Bar) {j : Nat} (hj : j < l.length * 5) : (l.flatMap bc)[j]? = some ((flatK bc 5 l.toArray)[j]!) := by
  rw [get_flatK bc 5 l.toArray j (by simpa using hj)]
  have hi : j / 5 < l.length := by omega
  have e1 := flat_at bc 5 bcl l (j / 5) hi (j % 5) (Nat.mod_lt _ (by decide))
  rw [show j / 5 * 5 + j % 5 = j by omega] at e1
  rw [e1]
  have e : l.toArray[j / 5]! = l[j / 5] := by simp [hi]
  rw [e]
  have h5 : j % 5 < (bc l[j / 5]).length := by rw [bcl]; exact Nat.mod_lt _ (by decide)
  rw [List.getElem?_eq_getElem h5, getElem!_pos (bc l[j / 5]) _ h5]
theorem Own.holds {B g cap : Nat} {w : World} {l : List Bar} (h : Own bc 60 5 B w (.slice (some ⟨g, 0, none⟩) l.length cap) l) : HoldsK bc 5 w g 0 l.toArray := by
  intro j hj
  have hj' : j < l.length * 5 := by simpa using hj
  have c := World.ownsRow.cellAt h j hj'
  have f := World.ownsRow.frozenAt h j
  rw [Nat.zero_add, c, flatK_at l hj']
  exact ⟨rfl, f⟩
theorem holds_fr {g : Nat} {w : World} {l : List Bar} (h : HoldsK bc 5 w g 0 l.toArray) {k : Nat} (hk : k < l.length) : Fr5 w ((⟨g, 0, none⟩ : Addr).add (k * 5)) l[k] := by
  have e : l.toArray[k]! = l[k] := by simp [hk]
  have key := fun c (hc : c < 5) => (HoldsK.cell h (i := k) (c := c) (by simpa using hk) hc).1
  rw [e] at key
  rw [Addr.add_lit, Nat.zero_add]
  simp only [Nat.zero_add] at key
  exact ⟨key 0 (by omega), key 1 (by omega), key 2 (by omega), key 3 (by omega), key 4 (by omega)⟩
theorem putRowB_below {B : Nat} (w : World) (n g : Nat) (d : Array Bar) (hB : B ≤ g) : Below B w (putRowK bc 5 (Sort.ahead w n) g 0 d) := by
  refine ⟨rfl, rfl, rfl, ?_, fun k hk => ?_⟩
  · simp [putRowK, putRow, mapBlock]
  · have : g ≠ k := by omega
    simp [putRowK, putRow, mapBlock, Array.getElem?_modify, this]
theorem bars_reverse (B : Nat) (v : Value) (m : List Bar) (w : World) (hO : Own bc 60 5 B w v m) (hk : ∀ x ∈ m, x.Ok w ∧ ∀ b, v.ownBlock = some b → Rdx b w x.sv x.ds) (hl : m.length ≤ 1000) :
    Calls Tryz.prog 30 #[v] w fun e w' => e = .returned (.tuple #[]) ∧ (∃ p cap, v = .slice p m.length cap ∧ Slb w' p m.reverse cap) ∧ Below B w w' := by
  have hO' := hO
  obtain ⟨hl5, ⟨rfl, h0⟩ | ⟨g, cap, cur, rfl, hB, hg, hc, hm, hz, ht⟩⟩ := hO'
  · obtain rfl : m = [] := List.eq_nil_of_length_eq_zero h0
    refine (AnyQ.slices_Reverse_empty Tryz.revB none 0 w).mono ?_
    rintro e w' ⟨rfl, rfl⟩
    exact ⟨rfl, ⟨none, 0, rfl, Slb.nil w'⟩, Below.refl _ _⟩
  · have hH := Own.holds hO
    have h := AnyQ.slices_Reverse Tryz.revB 5 Tryz.isAgg60 Tryz.sizeOf60 bc (fun _ => rfl) (fun x u hu => by
      unfold bc at hu
      simp only [List.mem_cons, List.not_mem_nil, or_false] at hu
      rcases hu with rfl | rfl | rfl | rfl | rfl <;> rfl) g 0 cap m.toArray w hH (by simp; omega)
    refine h.mono ?_
    rintro e w' ⟨rfl, n, rfl⟩
    have e : m.toArray.reverse = m.reverse.toArray := by simp
    rw [e]
    have hH2 := holdsK_putRowK bc 5 (Sort.ahead w n) g 0 m.toArray m.reverse.toArray (holdsK_ahead bc 5 w n g 0 _ hH) (by simp)
    refine ⟨rfl, ⟨_, cap, rfl, by simpa using hc, by simp; unfold maxLen; omega, fun k hk => ⟨_, rfl, holds_fr hH2 hk⟩, fun x hx => ?_⟩, putRowB_below w n g _ hB⟩
    obtain ⟨h1, h2⟩ := hk x (List.mem_reverse.1 hx)
    obtain ⟨q, c, e, k⟩ := h2 g rfl
    refine ⟨h1.nm, h1.ln, q, c, e, fun j hj => ?_⟩
    obtain ⟨a, e1, e2, e3⟩ := k j hj
    exact ⟨a, e1, by rw [cell?_putRowK_other bc 5 _ g 0 _ _ (by rw [add_block]; exact e2)]; exact e3⟩
end Go.Proofs.YthdafpbmmfelpaaGreatDoor
