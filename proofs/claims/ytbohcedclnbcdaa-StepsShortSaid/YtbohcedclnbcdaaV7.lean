/- Add, Least, Short, Pulse. -/
import Derived.Test.YtbohcedclnbcdaaC45
import Derived.Test.YtbohcedclnbcdaaC46
import Derived.Test.YtbohcedclnbcdaaV6
namespace Go.Proofs.Ytbohcedclnbcdaa
open Go.ChangeShapes Go.WideShapes Go.ChangeAt Go.RowKit
set_option linter.unusedVariables false
set_option linter.unusedSimpArgs false

/-- What Add and Least answer. -/
def rs (o : Int → Int → Int) (la lb : List Stp) : List Stp × Int := if (okS la && okS lb) = true then cmb o la lb else ([], 1)
set_option maxRecDepth 100000 in
set_option maxHeartbeats 1000000 in
theorem comb45_bad (pa pb : Option Addr) (la lb : List Stp) (ca cb : Nat) (w : World) (hA : Sl w pa la) (hB : Sl w pb lb) (hn : (okS la && okS lb) = false) :
    Calls Try.prog 44 #[.slice pa la.length ca, .slice pb lb.length cb, .func (.func 45) #[] #[]] w fun e w' => e = .returned (.tuple #[.slice none 0 0, .int .i64 1]) ∧ Below w.heap.size w w' := by
  have va1 := fun W h => valid_any pa la ca W h
  have vb1 := fun W h => valid_any pb lb cb W h
  have B1 := al1 w (.cells #[.func (.func 45) #[] #[]] 42)
  have B2 := al B1 (.cells #[.slice none 0 0] 22)
  have B3 := al B2 (.cells #[.int .i64 0] 25)
  have H6 := Has.new_ (w.alloc (.cells #[.func (.func 45) #[] #[]] 42)) 22 #[.slice none 0 0]
  have H7 := Has.new_ ((w.alloc (.cells #[.func (.func 45) #[] #[]] 42)).alloc (.cells #[.slice none 0 0] 22)) 25 #[.int .i64 0]
  rw [World.size_alloc] at H6
  rw [World.size_alloc, World.size_alloc] at H7
  replace H6 := H6.on (al1 _ (.cells #[.int .i64 0] 25))
  have HA := hA.on B3
  have HB := hB.on B3
  clear hA hB B1 B2
  cases hO : okS la
  · rw [hO] at va1
    clear hn hO vb1 HB
    go_enter Try.func44, Try.ntmps44
    go_wp2_with (go_at_call 16; (with_reducible refine (va1 _ HA).mono ?_); rintro e w1 ⟨rfl, hb⟩; have x6 := (H6.on hb).read 0; have x7 := fun u => ((H7.on hb).apart_ (p := ⟨w.heap.size + 1, 0, none⟩) (by show w.heap.size + 1 + 1 ≠ w.heap.size + 1; omega) u).read 0; have f6 := (H6.on hb).open_ 0; have f7 := (H7.on hb).open_ 0; simp only [List.getElem?_toArray, List.getElem?_cons_zero] at x6 x7; replace B3 := belows B3 hb; have K6 := H6.on hb; have K7 := H7.on hb; clear hb H6 H7 HA va1)
    have y6 := ((K6.put_ 0 (.slice none 0 0)).apart_ (p := ⟨w.heap.size + 1 + 1, 0, none⟩) (by show w.heap.size + 1 ≠ w.heap.size + 1 + 1; omega) (.int .i64 1)).read 0
    have y7 := ((K7.apart_ (p := ⟨w.heap.size + 1, 0, none⟩) (by show w.heap.size + 1 + 1 ≠ w.heap.size + 1; omega) (.slice none 0 0)).put_ 0 (.int .i64 1)).read 0
    have z6 : ((w1.setCell ⟨w.heap.size + 1, 0, none⟩ (.slice none 0 0)).setCell ⟨w.heap.size + 1 + 1, 0, none⟩ (.int .i64 1)).cell? ⟨w.heap.size + 1, 0, none⟩ = some (.slice none 0 0) := y6
    have z7 : ((w1.setCell ⟨w.heap.size + 1, 0, none⟩ (.slice none 0 0)).setCell ⟨w.heap.size + 1 + 1, 0, none⟩ (.int .i64 1)).cell? ⟨w.heap.size + 1 + 1, 0, none⟩ = some (.int .i64 1) := y7
    exact bodyPost_ret (v := .tuple #[.slice none 0 0, .int .i64 1]) (by simp [results, Try.results44, go_sem, z6, z7]) rfl ⟨rfl, (B3.setCell (p := ⟨w.heap.size + 1, 0, none⟩) (by show w.heap.size ≤ w.heap.size + 1; omega) _).setCell (p := ⟨w.heap.size + 1 + 1, 0, none⟩) (by show w.heap.size ≤ w.heap.size + 1 + 1; omega) _⟩
  · have hO2 : okS lb = false := by rw [hO] at hn; simpa using hn
    rw [hO] at va1
    rw [hO2] at vb1
    clear hn hO hO2
    go_enter Try.func44, Try.ntmps44
    go_wp2_with (first
      | (go_at_call 16; (with_reducible refine (va1 _ HA).mono ?_); rintro e w1 ⟨rfl, hb⟩; replace HB := HB.on hb; replace B3 := belows B3 hb; replace H6 := H6.on hb; replace H7 := H7.on hb; clear va1 HA hb)
      | (go_at_call 16; (with_reducible refine (vb1 _ HB).mono ?_); rintro e w2 ⟨rfl, hb⟩; have x6 := (H6.on hb).read 0; have x7 := fun u => ((H7.on hb).apart_ (p := ⟨w.heap.size + 1, 0, none⟩) (by show w.heap.size + 1 + 1 ≠ w.heap.size + 1; omega) u).read 0; have f6 := (H6.on hb).open_ 0; have f7 := (H7.on hb).open_ 0; simp only [List.getElem?_toArray, List.getElem?_cons_zero] at x6 x7; replace B3 := belows B3 hb; have K6 := H6.on hb; have K7 := H7.on hb; clear hb H6 H7 HB vb1))
    have y6 := ((K6.put_ 0 (.slice none 0 0)).apart_ (p := ⟨w.heap.size + 1 + 1, 0, none⟩) (by show w.heap.size + 1 ≠ w.heap.size + 1 + 1; omega) (.int .i64 1)).read 0
    have y7 := ((K7.apart_ (p := ⟨w.heap.size + 1, 0, none⟩) (by show w.heap.size + 1 + 1 ≠ w.heap.size + 1; omega) (.slice none 0 0)).put_ 0 (.int .i64 1)).read 0
    have z6 : ((w2.setCell ⟨w.heap.size + 1, 0, none⟩ (.slice none 0 0)).setCell ⟨w.heap.size + 1 + 1, 0, none⟩ (.int .i64 1)).cell? ⟨w.heap.size + 1, 0, none⟩ = some (.slice none 0 0) := y6
    have z7 : ((w2.setCell ⟨w.heap.size + 1, 0, none⟩ (.slice none 0 0)).setCell ⟨w.heap.size + 1 + 1, 0, none⟩ (.int .i64 1)).cell? ⟨w.heap.size + 1 + 1, 0, none⟩ = some (.int .i64 1) := y7
    exact bodyPost_ret (v := .tuple #[.slice none 0 0, .int .i64 1]) (by simp [results, Try.results44, go_sem, z6, z7]) rfl ⟨rfl, (B3.setCell (p := ⟨w.heap.size + 1, 0, none⟩) (by show w.heap.size ≤ w.heap.size + 1; omega) _).setCell (p := ⟨w.heap.size + 1 + 1, 0, none⟩) (by show w.heap.size ≤ w.heap.size + 1 + 1; omega) _⟩
theorem comb45_any (pa pb : Option Addr) (la lb : List Stp) (ca cb : Nat) (w : World) (hA : Sl w pa la) (hB : Sl w pb lb) :
    Calls Try.prog 44 #[.slice pa la.length ca, .slice pb lb.length cb, .func (.func 45) #[] #[]] w fun e w' => ∃ v, e = .returned (.tuple #[v, .int .i64 (rs o45 la lb).2]) ∧ OwnS w.heap.size w' v (rs o45 la lb).1 ∧ Below w.heap.size w w' := by
  cases h : (okS la && okS lb)
  · rw [rs, if_neg (by rw [h]; simp)]
    refine (comb45_bad pa pb la lb ca cb w hA hB h).mono ?_
    rintro e w' ⟨rfl, hb⟩
    exact ⟨_, rfl, OwnS.nil _ _, hb⟩
  · rw [rs, if_pos h]
    rw [Bool.and_eq_true] at h
    exact comb45_ok pa pb la lb ca cb w hA hB (okS_to h.1) (okS_to h.2)
set_option maxRecDepth 100000 in
set_option maxHeartbeats 1000000 in
theorem comb46_bad (pa pb : Option Addr) (la lb : List Stp) (ca cb : Nat) (w : World) (hA : Sl w pa la) (hB : Sl w pb lb) (hn : (okS la && okS lb) = false) :
    Calls Try.prog 44 #[.slice pa la.length ca, .slice pb lb.length cb, .func (.func 46) #[] #[]] w fun e w' => e = .returned (.tuple #[.slice none 0 0, .int .i64 1]) ∧ Below w.heap.size w w' := by
  have va1 := fun W h => valid_any pa la ca W h
  have vb1 := fun W h => valid_any pb lb cb W h
  have B1 := al1 w (.cells #[.func (.func 46) #[] #[]] 42)
  have B2 := al B1 (.cells #[.slice none 0 0] 22)
  have B3 := al B2 (.cells #[.int .i64 0] 25)
  have H6 := Has.new_ (w.alloc (.cells #[.func (.func 46) #[] #[]] 42)) 22 #[.slice none 0 0]
  have H7 := Has.new_ ((w.alloc (.cells #[.func (.func 46) #[] #[]] 42)).alloc (.cells #[.slice none 0 0] 22)) 25 #[.int .i64 0]
  rw [World.size_alloc] at H6
  rw [World.size_alloc, World.size_alloc] at H7
  replace H6 := H6.on (al1 _ (.cells #[.int .i64 0] 25))
  have HA := hA.on B3
  have HB := hB.on B3
  clear hA hB B1 B2
  cases hO : okS la
  · rw [hO] at va1
    clear hn hO vb1 HB
    go_enter Try.func44, Try.ntmps44
    go_wp2_with (go_at_call 16; (with_reducible refine (va1 _ HA).mono ?_); rintro e w1 ⟨rfl, hb⟩; have x6 := (H6.on hb).read 0; have x7 := fun u => ((H7.on hb).apart_ (p := ⟨w.heap.size + 1, 0, none⟩) (by show w.heap.size + 1 + 1 ≠ w.heap.size + 1; omega) u).read 0; have f6 := (H6.on hb).open_ 0; have f7 := (H7.on hb).open_ 0; simp only [List.getElem?_toArray, List.getElem?_cons_zero] at x6 x7; replace B3 := belows B3 hb; have K6 := H6.on hb; have K7 := H7.on hb; clear hb H6 H7 HA va1)
    have y6 := ((K6.put_ 0 (.slice none 0 0)).apart_ (p := ⟨w.heap.size + 1 + 1, 0, none⟩) (by show w.heap.size + 1 ≠ w.heap.size + 1 + 1; omega) (.int .i64 1)).read 0
    have y7 := ((K7.apart_ (p := ⟨w.heap.size + 1, 0, none⟩) (by show w.heap.size + 1 + 1 ≠ w.heap.size + 1; omega) (.slice none 0 0)).put_ 0 (.int .i64 1)).read 0
    have z6 : ((w1.setCell ⟨w.heap.size + 1, 0, none⟩ (.slice none 0 0)).setCell ⟨w.heap.size + 1 + 1, 0, none⟩ (.int .i64 1)).cell? ⟨w.heap.size + 1, 0, none⟩ = some (.slice none 0 0) := y6
    have z7 : ((w1.setCell ⟨w.heap.size + 1, 0, none⟩ (.slice none 0 0)).setCell ⟨w.heap.size + 1 + 1, 0, none⟩ (.int .i64 1)).cell? ⟨w.heap.size + 1 + 1, 0, none⟩ = some (.int .i64 1) := y7
    exact bodyPost_ret (v := .tuple #[.slice none 0 0, .int .i64 1]) (by simp [results, Try.results44, go_sem, z6, z7]) rfl ⟨rfl, (B3.setCell (p := ⟨w.heap.size + 1, 0, none⟩) (by show w.heap.size ≤ w.heap.size + 1; omega) _).setCell (p := ⟨w.heap.size + 1 + 1, 0, none⟩) (by show w.heap.size ≤ w.heap.size + 1 + 1; omega) _⟩
  · have hO2 : okS lb = false := by rw [hO] at hn; simpa using hn
    rw [hO] at va1
    rw [hO2] at vb1
    clear hn hO hO2
    go_enter Try.func44, Try.ntmps44
    go_wp2_with (first
      | (go_at_call 16; (with_reducible refine (va1 _ HA).mono ?_); rintro e w1 ⟨rfl, hb⟩; replace HB := HB.on hb; replace B3 := belows B3 hb; replace H6 := H6.on hb; replace H7 := H7.on hb; clear va1 HA hb)
      | (go_at_call 16; (with_reducible refine (vb1 _ HB).mono ?_); rintro e w2 ⟨rfl, hb⟩; have x6 := (H6.on hb).read 0; have x7 := fun u => ((H7.on hb).apart_ (p := ⟨w.heap.size + 1, 0, none⟩) (by show w.heap.size + 1 + 1 ≠ w.heap.size + 1; omega) u).read 0; have f6 := (H6.on hb).open_ 0; have f7 := (H7.on hb).open_ 0; simp only [List.getElem?_toArray, List.getElem?_cons_zero] at x6 x7; replace B3 := belows B3 hb; have K6 := H6.on hb; have K7 := H7.on hb; clear hb H6 H7 HB vb1))
    have y6 := ((K6.put_ 0 (.slice none 0 0)).apart_ (p := ⟨w.heap.size + 1 + 1, 0, none⟩) (by show w.heap.size + 1 ≠ w.heap.size + 1 + 1; omega) (.int .i64 1)).read 0
    have y7 := ((K7.apart_ (p := ⟨w.heap.size + 1, 0, none⟩) (by show w.heap.size + 1 + 1 ≠ w.heap.size + 1; omega) (.slice none 0 0)).put_ 0 (.int .i64 1)).read 0
    have z6 : ((w2.setCell ⟨w.heap.size + 1, 0, none⟩ (.slice none 0 0)).setCell ⟨w.heap.size + 1 + 1, 0, none⟩ (.int .i64 1)).cell? ⟨w.heap.size + 1, 0, none⟩ = some (.slice none 0 0) := y6
    have z7 : ((w2.setCell ⟨w.heap.size + 1, 0, none⟩ (.slice none 0 0)).setCell ⟨w.heap.size + 1 + 1, 0, none⟩ (.int .i64 1)).cell? ⟨w.heap.size + 1 + 1, 0, none⟩ = some (.int .i64 1) := y7
    exact bodyPost_ret (v := .tuple #[.slice none 0 0, .int .i64 1]) (by simp [results, Try.results44, go_sem, z6, z7]) rfl ⟨rfl, (B3.setCell (p := ⟨w.heap.size + 1, 0, none⟩) (by show w.heap.size ≤ w.heap.size + 1; omega) _).setCell (p := ⟨w.heap.size + 1 + 1, 0, none⟩) (by show w.heap.size ≤ w.heap.size + 1 + 1; omega) _⟩
theorem comb46_any (pa pb : Option Addr) (la lb : List Stp) (ca cb : Nat) (w : World) (hA : Sl w pa la) (hB : Sl w pb lb) :
    Calls Try.prog 44 #[.slice pa la.length ca, .slice pb lb.length cb, .func (.func 46) #[] #[]] w fun e w' => ∃ v, e = .returned (.tuple #[v, .int .i64 (rs o46 la lb).2]) ∧ OwnS w.heap.size w' v (rs o46 la lb).1 ∧ Below w.heap.size w w' := by
  cases h : (okS la && okS lb)
  · rw [rs, if_neg (by rw [h]; simp)]
    refine (comb46_bad pa pb la lb ca cb w hA hB h).mono ?_
    rintro e w' ⟨rfl, hb⟩
    exact ⟨_, rfl, OwnS.nil _ _, hb⟩
  · rw [rs, if_pos h]
    rw [Bool.and_eq_true] at h
    exact comb46_ok pa pb la lb ca cb w hA hB (okS_to h.1) (okS_to h.2)
set_option maxRecDepth 100000 in
theorem add_any (pa pb : Option Addr) (la lb : List Stp) (ca cb : Nat) (w : World) (hA : Sl w pa la) (hB : Sl w pb lb) :
    Calls Try.prog 20 #[.slice pa la.length ca, .slice pb lb.length cb] w fun e w' => ∃ v, e = .returned (.tuple #[v, .int .i64 (rs o45 la lb).2]) ∧ OwnS w.heap.size w' v (rs o45 la lb).1 ∧ Below w.heap.size w w' := by
  have h := comb45_any pa pb la lb ca cb w hA hB
  generalize rs o45 la lb = R at *
  go_enter Try.func20, Try.ntmps20
  go_wp2_with (go_at_call 44; (with_reducible refine h.mono ?_); rintro e w1 ⟨v, rfl, ho, hb⟩)
  exact bodyPost_ret (v := .tuple #[v, .int .i64 R.2]) (by simp [results, Try.results20, go_sem]) rfl ⟨v, rfl, ho, hb⟩
set_option maxRecDepth 100000 in
theorem least_any (pa pb : Option Addr) (la lb : List Stp) (ca cb : Nat) (w : World) (hA : Sl w pa la) (hB : Sl w pb lb) :
    Calls Try.prog 21 #[.slice pa la.length ca, .slice pb lb.length cb] w fun e w' => ∃ v, e = .returned (.tuple #[v, .int .i64 (rs o46 la lb).2]) ∧ OwnS w.heap.size w' v (rs o46 la lb).1 ∧ Below w.heap.size w w' := by
  have h := comb46_any pa pb la lb ca cb w hA hB
  generalize rs o46 la lb = R at *
  go_enter Try.func21, Try.ntmps21
  go_wp2_with (go_at_call 44; (with_reducible refine h.mono ?_); rintro e w1 ⟨v, rfl, ho, hb⟩)
  exact bodyPost_ret (v := .tuple #[v, .int .i64 R.2]) (by simp [results, Try.results21, go_sem]) rfl ⟨v, rfl, ho, hb⟩

end Go.Proofs.Ytbohcedclnbcdaa
