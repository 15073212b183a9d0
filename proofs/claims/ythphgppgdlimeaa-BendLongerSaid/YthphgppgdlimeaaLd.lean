/- Cut, Mass; long, right, total; the reference. -/
import Derived.Test.YthphgppgdlimeaaLc
import Derived.Test.YthphgppgdlimeaaRq
import Derived.Test.YthphgppgdlimeaaRv
namespace Go.Proofs.Ythphgppgdlimeaa
open Go.ChangeShapes Go.WideShapes Go.ChangeAt Go.RowKit
set_option linter.unusedVariables false
set_option linter.unusedSimpArgs false

def cutB (b : Bar) : Int := (max (devH b) 1 + 4999).tdiv 5000 * 5
def massB (b : Bar) : Int := b.count * ms b.size (cutB b)
theorem cut_e {b : Bar} : cutB b = (max (devH b) 1 + 4999) / 5000 * 5 := by
  unfold cutB
  rw [Int.tdiv_eq_ediv_of_nonneg (by omega)]
theorem cut_bd {b : Bar} (h : barB b = true) : 5 ≤ cutB b ∧ cutB b ≤ 1048576 := by
  have := dev_bd h
  rw [cut_e]
  omega
theorem mass_bd {b : Bar} (h : barB b = true) : 0 ≤ massB b ∧ massB b ≤ 10343154000 := by
  have h1 := barB_and h
  have h2 := cut_bd h
  have h3 := (ms_b (n := cutB b) h1.2.2.2.2.1 (by omega) h2.2).2.2.2
  have h4 := h1.2.2.2.2.2
  unfold massB
  generalize ms b.size (cutB b) = m at *
  have e1 : b.count * m ≤ b.count * 10343154 := Int.mul_le_mul_of_nonneg_left h3.2 (by omega)
  have e2 : 0 ≤ b.count * m := Int.mul_nonneg (by omega) h3.1
  omega
set_option maxHeartbeats 8000000 in
set_option maxRecDepth 100000 in
theorem Cut_no (b : Bar) (w : World) (hk : b.Ok w) (hv : barB b = false) : Calls Try.prog 19 #[b.val] w fun e w' => e = .returned (.tuple #[.int .i64 0, .int .i64 1]) ∧ Below w.heap.size w w' := by
  have hL := fun W (h : Below w.heap.size w W) => Dev_no b W (hk.on h) hv
  have E := (Env.nil w).add w.heap.size 32 b.cs rfl
  have hcs : b.cs = #[.string b.mark, .int .i64 b.size, .int .i64 b.count, .int .i64 b.code, .slice b.p b.ds.length b.cap] := rfl
  have hvv : b.val = .agg b.cs := rfl
  rw [hcs] at E hvv
  rw [hvv] at hL ⊢
  unfold two at hL
  clear hk hv hcs hvv
  have C := E.cells
  simp [BC, CF] at C
  go_enter Try.func19, Try.ntmps19
  go_wp2_with (first
    | (go_at_call 18; (with_reducible refine (hL _ (envb E)).mono ?_); rintro X wq ⟨rfl, hb⟩; replace E := E.on hb; replace E := E.more (.cells #[.int .i64 0, .int .i64 0] 24); replace C := E.cells; simp [BC, CF] at C; clear hb))
  exact bodyPost_ret (v := .tuple #[.int .i64 0, .int .i64 1]) (by simp [results, Try.results19, go_sem]) rfl ⟨rfl, envb E⟩
set_option maxHeartbeats 8000000 in
set_option maxRecDepth 100000 in
theorem Cut_ok (b : Bar) (w : World) (hk : b.Ok w) (hv : barB b = true) : Calls Try.prog 19 #[b.val] w fun e w' => e = .returned (.tuple #[.int .i64 (cutB b), .int .i64 0]) ∧ Below w.heap.size w w' := by
  have hL := fun W (h : Below w.heap.size w W) => Dev_ok b W (hk.on h) hv
  have E := (Env.nil w).add w.heap.size 32 b.cs rfl
  have hd := (dev_bd hv).2
  have hu := fun W => rup5000 (max (devH b) 1) (by unfold Bd; omega) W
  have hc := cut_bd hv
  have e0 : (max (devH b) 1 + 4999).tdiv 5000 * 5 = cutB b := rfl
  have W1 : IntKind.i64.wrap ((max (devH b) 1 + 4999).tdiv 5000 * 5) = cutB b := by rw [e0]; exact IntWalk.i64_in _ (by omega)
  have hcs : b.cs = #[.string b.mark, .int .i64 b.size, .int .i64 b.count, .int .i64 b.code, .slice b.p b.ds.length b.cap] := rfl
  have hvv : b.val = .agg b.cs := rfl
  rw [hcs] at E hvv
  rw [hvv] at hL ⊢
  unfold two at hL
  clear hk hv hcs hvv hc e0
  generalize cutB b = cut at *
  generalize devL b = dl at *
  generalize devH b = dh at *
  have C := E.cells
  simp [BC, CF] at C
  go_enter Try.func19, Try.ntmps19
  go_wp2_with (first
    | (go_at_call 18; (with_reducible refine (hL _ (envb E)).mono ?_); rintro X wq ⟨rfl, hb⟩; replace E := E.on hb; have E2 := E.add wq.heap.size 24 #[.int .i64 dl, .int .i64 dh] rfl; replace C := E2.cells; simp [BC, CF] at C; clear hb)
    | (go_at_call 49; (with_reducible refine (hu _).mono ?_); rintro X wq ⟨rfl, rfl⟩))
  exact bodyPost_ret (v := .tuple #[.int .i64 cut, .int .i64 0]) (by simp [results, Try.results19, go_sem]) rfl ⟨rfl, envb E2⟩
set_option maxHeartbeats 8000000 in
set_option maxRecDepth 100000 in
theorem Mass_no (b : Bar) (w : World) (hk : b.Ok w) (hv : barB b = false) : Calls Try.prog 20 #[b.val] w fun e w' => e = .returned (.tuple #[.int .i64 0, .int .i64 1]) ∧ Below w.heap.size w w' := by
  have hL := fun W (h : Below w.heap.size w W) => Cut_no b W (hk.on h) hv
  have E := (Env.nil w).add w.heap.size 32 b.cs rfl
  have hcs : b.cs = #[.string b.mark, .int .i64 b.size, .int .i64 b.count, .int .i64 b.code, .slice b.p b.ds.length b.cap] := rfl
  have hvv : b.val = .agg b.cs := rfl
  rw [hcs] at E hvv
  rw [hvv] at hL ⊢
  clear hk hv hcs hvv
  have C := E.cells
  simp [BC, CF] at C
  go_enter Try.func20, Try.ntmps20
  go_wp2_with (first
    | (go_at_call 19; (with_reducible refine (hL _ (envb E)).mono ?_); rintro X wq ⟨rfl, hb⟩; replace E := E.on hb; replace C := E.cells; simp [BC, CF] at C; clear hb))
  exact bodyPost_ret (v := .tuple #[.int .i64 0, .int .i64 1]) (by simp [results, Try.results20, go_sem]) rfl ⟨rfl, envb E⟩
set_option maxHeartbeats 8000000 in
set_option maxRecDepth 100000 in
theorem Mass_ok (b : Bar) (w : World) (hk : b.Ok w) (hv : barB b = true) : Calls Try.prog 20 #[b.val] w fun e w' => e = .returned (.tuple #[.int .i64 (massB b), .int .i64 0]) ∧ Below w.heap.size w w' := by
  have hL := fun W (h : Below w.heap.size w W) => Cut_ok b W (hk.on h) hv
  have E := (Env.nil w).add w.heap.size 32 b.cs rfl
  have hc := cut_bd hv
  have hm := fun W => mass_ok b.size (cutB b) (barB_and hv).2.2.2.2.1 (by omega) hc.2 W
  have hd := mass_bd hv
  have W1 : IntKind.i64.wrap (b.count * ms b.size (cutB b)) = massB b := IntWalk.i64_in (massB b) (by omega)
  have hcs : b.cs = #[.string b.mark, .int .i64 b.size, .int .i64 b.count, .int .i64 b.code, .slice b.p b.ds.length b.cap] := rfl
  have hvv : b.val = .agg b.cs := rfl
  rw [hcs] at E hvv
  rw [hvv] at hL ⊢
  clear hk hv hcs hvv hc hd
  generalize ms b.size (cutB b) = m at *
  generalize massB b = r at *
  generalize cutB b = cut at *
  have C := E.cells
  simp [BC, CF] at C
  go_enter Try.func20, Try.ntmps20
  go_wp2_with (first
    | (go_at_call 19; (with_reducible refine (hL _ (envb E)).mono ?_); rintro X wq ⟨rfl, hb⟩; replace E := E.on hb; replace C := E.cells; simp [BC, CF] at C; clear hb)
    | (go_at_call 33; (with_reducible refine (hm _).mono ?_); rintro X wq ⟨rfl, hb⟩; replace E := E.on hb; replace C := E.cells; simp [BC, CF] at C; clear hb))
  exact bodyPost_ret (v := .tuple #[.int .i64 r, .int .i64 0]) (by simp [results, Try.results20, go_sem]) rfl ⟨rfl, envb E⟩
def longB (b : Bar) : Bool := decide (20 < b.ds.length) || decide (60 < b.mark.size)
set_option maxRecDepth 100000 in
theorem long_any (b : Bar) (w : World) : Calls Try.prog 16 #[b.val] w fun e w' => e = .returned (.bool (longB b)) ∧ Below w.heap.size w w' := by
  have E := (Env.nil w).add w.heap.size 32 b.cs rfl
  unfold longB
  have hcs : b.cs = #[.string b.mark, .int .i64 b.size, .int .i64 b.count, .int .i64 b.code, .slice b.p b.ds.length b.cap] := rfl
  have hvv : b.val = .agg b.cs := rfl
  rw [hcs] at E hvv
  rw [hvv]
  clear hcs hvv
  have C := E.cells
  simp [BC, CF] at C
  generalize b.ds.length = n at *
  by_cases h1 : 20 < n
  · have t1 : decide ((n : Int) > 20) = true := by simp; omega
    have t2 : decide ((20 : Int) < (n : Int)) = true := by simp; omega
    have t3 : decide (20 < n) = true := by simp [h1]
    go_enter Try.func16, Try.ntmps16
    go_wp2
    go_ret
    exact ⟨by simp [h1], envb E⟩
  · have t1 : decide ((n : Int) > 20) = false := by simp; omega
    have t2 : decide ((20 : Int) < (n : Int)) = false := by simp; omega
    have t3 : decide (20 < n) = false := by simp [h1]
    go_enter Try.func16, Try.ntmps16
    go_wp2
    go_ret
    exact ⟨by simp [h1]; omega, envb E⟩
def rightB (b : Bar) : Bool := !longB b && barB b
set_option maxHeartbeats 8000000 in
set_option maxRecDepth 100000 in
theorem right_any (b : Bar) (w : World) (hk : b.Ok w) : Calls Try.prog 29 #[b.val] w fun e w' => e = .returned (.bool (rightB b)) ∧ Below w.heap.size w w' := by
  have hl := fun W => long_any b W
  have hr := fun W (h : Below w.heap.size w W) => rValid_any b W (hk.on h)
  have E := (Env.nil w).add w.heap.size 32 b.cs rfl
  unfold rightB
  have hcs : b.cs = #[.string b.mark, .int .i64 b.size, .int .i64 b.count, .int .i64 b.code, .slice b.p b.ds.length b.cap] := rfl
  have hvv : b.val = .agg b.cs := rfl
  rw [hcs] at E hvv
  rw [hvv] at hl hr ⊢
  clear hk hcs hvv
  generalize longB b = L at *
  generalize barB b = B at *
  have C := E.cells
  simp [BC, CF] at C
  cases L
  · go_enter Try.func29, Try.ntmps29
    go_wp2_with (first
      | (go_at_call 16; (with_reducible refine (hl _).mono ?_); rintro X wq ⟨rfl, hb⟩; replace E := E.on hb; replace C := E.cells; simp [BC, CF] at C; clear hb)
      | (go_at_call 21; (with_reducible refine (hr _ (envb E)).mono ?_); rintro X wq ⟨rfl, hb⟩; replace E := E.on hb; replace C := E.cells; simp [BC, CF] at C; clear hb))
    go_ret
    exact ⟨by simp, envb E⟩
  · go_enter Try.func29, Try.ntmps29
    go_wp2_with (first
      | (go_at_call 16; (with_reducible refine (hl _).mono ?_); rintro X wq ⟨rfl, hb⟩; replace E := E.on hb; replace C := E.cells; simp [BC, CF] at C; clear hb)
      | (go_at_call 21; (with_reducible refine (hr _ (envb E)).mono ?_); rintro X wq ⟨rfl, hb⟩; replace E := E.on hb; replace C := E.cells; simp [BC, CF] at C; clear hb))
    go_ret
    exact ⟨by simp, envb E⟩
end Go.Proofs.Ythphgppgdlimeaa
