/- Lists of bars as arguments. -/
import Derived.Test.YthdafpbmmfelpaaGreatDoorOpn
import Derived.Test.YthdafpbmmfelpaaGreatDoorCb
import Derived.Test.YthdafpbmmfelpaaGreatDoorWd
import Derived.Deep.Slices
import Derived.Deep.Fields
import Derived.ChangeSame
import Derived.OpenShut
import Derived.ShutString
import Derived.WalkKit
import Derived.ProofKit
import Derived.HandedShaped
import Derived.Shelf.Vars
import Derived.LaidMore
import Derived.Lib.LaidTab
import Derived.Lay
import Derived.SevenTiedAt
import Derived.Stop.Joined
namespace Go.Proofs.YthdafpbmmfelpaaGreatDoor
open Go.ChangeShapes Go.WideShapes Go.Deep Go.RowKit Go.Joins
set_option linter.unusedVariables false
set_option maxRecDepth 100000
theorem bar_cells {H : Type} {enc : TypeId × Value → H} {w : World} {fuel : Nat} {c0 c1 c2 c3 c4 : Value} {x : DataW H × List MemPlace} (hf : DataW.trod enc Tryz.prog w 0 (fun _ => true) true fuel 60 [c0, c1, c2, c3, c4] = some x) :
    ∃ b : Bar, [c0, c1, c2, c3, c4] = bc b ∧ b.Ok w := by
  obtain ⟨y0, y1, y2, y3, y4, n, h0, h1, h2, h3, h4⟩ := trod_struct5 Tryz.underlying60 hf
  rw [cells9] at h0
  rw [cells3] at h1 h2 h3
  rw [cells27] at h4
  simp at h0 h1 h2 h3 h4
  obtain ⟨s, e0, -, hs⟩ := DataW.trod_string Tryz.underlying9 h0
  obtain ⟨n1, e1, -, -⟩ := DataW.trod_int Tryz.underlying3 h1
  obtain ⟨n2, e2, -, -⟩ := DataW.trod_int Tryz.underlying3 h2
  obtain ⟨n3, e3, -, -⟩ := DataW.trod_int Tryz.underlying3 h3
  simp at e0 e1 e2 e3
  subst e0 e1 e2 e3
  obtain ⟨p, l, cap, e4, hr, hl⟩ := list_cells h4
  subst e4
  exact ⟨⟨s, n1, n2, n3, p, l, cap⟩, rfl, ⟨hs, hl, hr⟩⟩
theorem list_open {H : Type} {enc : TypeId × Value → H} {w : World} {r : Reach} {b0 : Nat} {v : Value} {d : DataW H} {ps : List MemPlace}
    (hv : Value.okWide Tryz.prog w r b0 22 v) (h : DataW.Trod enc Tryz.prog w 0 (fun _ => true) true 22 v d ps) :
    ∃ (p : Option Addr) (l : List Bar) (cap : Nat), v = .slice p l.length cap ∧ Slb w p l cap := by
  obtain ⟨a, n, c, rfl⟩ := okWide_slice Tryz.underlying22 hv
  obtain ⟨fuel, hf⟩ := h
  simp only [Value.cells] at hf
  rcases open_slice Tryz.underlying22 hf with ⟨hc, -⟩ | ⟨a', len, cap, m, n', D, Pl, hc, -, hl, hm, hmm, -, hi⟩
  · simp at hc
    obtain ⟨rfl, rfl, rfl⟩ := hc
    exact ⟨none, [], 0, rfl, Slb.nil w⟩
  · simp at hc
    obtain ⟨rfl, rfl, rfl⟩ := hc
    have hm' : m = c := by simpa using hmm
    subst hm'
    have k : ∀ i, i < n → ∃ b : Bar, Fr5 w (a'.add (i * 5)) b ∧ b.Ok w := by
      intro i hin
      obtain ⟨cs', hc, ht⟩ := hi i (by omega)
      rw [cells32] at hc
      obtain ⟨_, hcl, hat⟩ := World.cells?_some hc
      match cs', hcl with
      | [c0, c1, c2, c3, c4], _ =>
        obtain ⟨b, e, hk⟩ := bar_cells ht
        rw [e] at hat
        have ad : ∀ j, 0 < j → (⟨(a'.add (i * 5)).block, (a'.add (i * 5)).off + j, none⟩ : Addr) = (a'.add (i * 5)).add j := fun j hj => by
          rw [Addr.add.eq_1 (a'.add (i * 5)) j, if_neg (by omega)]
        refine ⟨b, ⟨?_, ?_, ?_, ?_, ?_⟩, hk⟩
        · have := hat 0 (by show 0 < 5; omega)
          rwa [show (a'.add (i * 5)).add 0 = a'.add (i * 5) by simp [Addr.add]] at this
        · rw [ad 1 (by omega)]; exact hat 1 (by show 1 < 5; omega)
        · rw [ad 2 (by omega)]; exact hat 2 (by show 2 < 5; omega)
        · rw [ad 3 (by omega)]; exact hat 3 (by show 3 < 5; omega)
        · rw [ad 4 (by omega)]; exact hat 4 (by show 4 < 5; omega)
    haveI : Inhabited Bar := ⟨⟨⟨#[]⟩, 0, 0, 0, none, [], 0⟩⟩
    obtain ⟨F, hF⟩ := choose_lt k
    refine ⟨some a', (List.range n).map F, m, by simp, ⟨by simp; omega, by rw [List.length_map, List.length_range]; omega, fun i hil => ⟨a', rfl, ?_⟩, fun b hb => ?_⟩⟩
    · have hin : i < n := by simpa using hil
      have := (hF i hin).1
      simpa using this
    · obtain ⟨i, hi2, rfl⟩ := List.mem_map.1 hb
      exact (hF i (List.mem_range.1 hi2)).2
end Go.Proofs.YthdafpbmmfelpaaGreatDoor
