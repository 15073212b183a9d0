/- ScheduleAdds: the whole. -/
import Derived.Test.YthdafpbmmfelpaaGreatDoorW5
namespace Go.Proofs.YthdafpbmmfelpaaGreatDoor
open Go.ChangeShapes Go.WideShapes Go.ChangeAt Go.RowKit
set_option linter.unusedVariables false
set_option linter.unusedSimpArgs false

set_option maxHeartbeats 8000000 in
set_option maxRecDepth 100000 in
theorem adds_walk (p : Option Addr) (a : List Bar) (cp : Nat) (q : Option Addr) (b : List Bar) (cq : Nat) (w : World) (hA : Slb w p a cp) (hB : Slb w q b cq) (hT : Tab w) :
    Calls Tryz.prog 9 #[.slice p a.length cp, .slice q b.length cq] w fun e w' => e = .returned (.bool true) ∧ Below w.heap.size w w' := by
  cases hs : (smallL a && smallL b)
  · have few1 := few_two p q a b cp cq
    rw [hs] at few1
    go_enter Tryz.func9, Tryz.ntmps9
    go_wp2_with (first
      | (go_at_call 10; (with_reducible refine (awake_any _ hT).mono ?_); rintro X w1 ⟨rfl, hb1⟩; have h11 := few1 w1 (hA.on hb1) (hB.on hb1))
      | (go_at_call 11; (with_reducible refine h11.mono ?_); rintro X w2 ⟨rfl, rfl⟩; have B2 := al hb1 (.cells #[.slice p a.length cp, .slice q b.length cq] 22)))
    go_ret
    exact ⟨rfl, B2⟩
  cases hva : validL a
  · have few1 := few_two p q a b cp cq
    rw [hs] at few1
    have h27 := fun W (h : Below w.heap.size w W) => Merge_arg p q a b cp cq W (hA.on h) (hB.on h) (.inl hva)
    have h27n : ∀ W, Below w.heap.size w W → Calls Tryz.prog 27 #[.slice p a.length cp, .slice none 0 0] W fun e w' => e = .returned (.tuple #[.slice none 0 0, .int .i64 1]) ∧ Below W.heap.size W w' := fun W h => Merge_arg p none a [] cp 0 W (hA.on h) (Slb.nil W) (.inl hva)
    have h15 := fun W (h : Below w.heap.size w W) => Valid_list p a cp W (hA.on h)
    rw [hva] at h15
    clear hva hs
    go_enter Tryz.func9, Tryz.ntmps9
    go_wp2_with (first
      | (go_at_call 10; (with_reducible refine (awake_any _ hT).mono ?_); rintro X w1 ⟨rfl, hb1⟩; have h11 := few1 w1 (hA.on hb1) (hB.on hb1))
      | (go_at_call 11; (with_reducible refine h11.mono ?_); rintro X w2 ⟨rfl, rfl⟩; have B2 := al hb1 (.cells #[.slice p a.length cp, .slice q b.length cq] 22))
      | (go_at_call 27; (with_reducible refine (h27 _ B2).mono ?_); rintro X w3 ⟨rfl, hb⟩; have B3 := belows B2 hb; clear hb)
      | (go_at_call 27; (with_reducible refine (h27n _ B3).mono ?_); rintro X w4 ⟨rfl, hb⟩; have B4 := belows B3 hb; clear hb)
      | (go_at_call 15; (with_reducible refine (h15 _ B4).mono ?_); rintro X w5 ⟨rfl, hb⟩; have B5 := belows B4 hb; clear hb))
    go_ret
    exact ⟨rfl, B5⟩
  cases hvb : validL b
  · refine adds_main p a cp q b cq w hA hB hT hs hva 1 [] (fun W h => ?_) (fun _ => rfl) (fun h => absurd h (by decide))
    refine (Merge_arg p q a b cp cq W (hA.on h) (hB.on h) (.inr hvb)).mono ?_
    rintro X w' ⟨rfl, hb⟩
    exact ⟨none, [], 0, rfl, Slb.nil w', rfl, hb⟩
  · refine adds_main p a cp q b cq w hA hB hT hs hva (mgE a b) (resN a b) (fun W h => ?_) (fun h => by rw [resN, if_neg h]) (fun h => ⟨hvb, fun l hl => res_ok hva hvb h hl⟩)
    refine (Merge_ok p q a b cp cq W (hA.on h) (hB.on h) hva hvb).mono ?_
    rintro X w' ⟨v, rfl, k1, k2, hb⟩
    obtain ⟨p', l, c', rfl, h1, h2⟩ := mg_shape k1 k2
    exact ⟨p', l, c', rfl, h1, h2, hb⟩
end Go.Proofs.YthdafpbmmfelpaaGreatDoor
