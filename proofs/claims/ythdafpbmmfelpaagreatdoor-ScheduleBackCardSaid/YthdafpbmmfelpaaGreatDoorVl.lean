/- Bars: Valid of the program. -/
import Derived.Test.YthdafpbmmfelpaaGreatDoorM2
import Derived.Test.YthdafpbmmfelpaaGreatDoorM1
namespace Go.Proofs.YthdafpbmmfelpaaGreatDoor
open Go.ChangeShapes Go.WideShapes Go.ChangeAt Go.RowKit
set_option linter.unusedVariables false
set_option linter.unusedSimpArgs false

theorem envb {w0 w : World} {l : List Fb} (h : Env w0 w l) : Below w0.heap.size w0 w := h.1
structure Bar where
  mark : ByteArray
  size : Int
  count : Int
  code : Int
  p : Option Addr
  ds : List Int
  cap : Nat
def Bar.sv (b : Bar) : Value := .slice b.p b.ds.length b.cap
def Bar.cs (b : Bar) : Array Value := #[.string b.mark, .int .i64 b.size, .int .i64 b.count, .int .i64 b.code, .slice b.p b.ds.length b.cap]
def Bar.val (b : Bar) : Value := .agg b.cs
/-- A bar that lies in a world. -/
structure Bar.Ok (b : Bar) (w : World) : Prop where
  nm : b.mark.size ≤ maxLen
  ln : b.ds.length ≤ maxLen
  rd : Rdz w b.sv b.ds
theorem Bar.Ok.on {b : Bar} {w w' : World} (h : b.Ok w) (hb : Below w.heap.size w w') : b.Ok w' := ⟨h.nm, h.ln, h.rd.on hb⟩
def nmB (b : Bar) : Bool := Dec.nameB b.mark.data.toList
def barB (b : Bar) : Bool := isC b.code && (b.ds.length == ndim b.code) && fitB 262144 b.ds && nmB b && isz b.size && decide (1 ≤ b.count) && decide (b.count ≤ 1000)
set_option maxHeartbeats 4000000 in
set_option maxRecDepth 100000 in
theorem Valid_any (b : Bar) (w : World) (hk : b.Ok w) : Calls Tryz.prog 40 #[b.val] w fun e w' => e = .returned (.bool (barB b)) ∧ Below w.heap.size w w' := by
  have hD := fun W => Dims_any b.code W
  have hF := fun W (h : Below w.heap.size w W) => fit_any b.sv b.ds W (hk.rd.on h) hk.ln
  have hN := fun W => Dec.isName_any b.mark W hk.nm
  have hS := fun W => isz_any b.size W
  have E := (Env.nil w).add w.heap.size 60 b.cs rfl
  have e0 : nmB b = Dec.nameB b.mark.data.toList := rfl
  rw [← e0] at hN
  unfold barB
  generalize nmB b = NM at *
  generalize isz b.size = SZ at *
  generalize fitB 262144 b.ds = FT at *
  generalize ndim b.code = n at *
  generalize isC b.code = IC at *
  obtain ⟨mk, sz, ct, cd, p, ds, cap⟩ := b
  simp only [Bar.sv, Bar.cs, Bar.val] at *
  clear e0 hk
  generalize ds.length = len at *
  have C := E.cells
  simp [BC, CF] at C
  cases IC
  · simp only [Bool.false_and]
    go_enter Tryz.func40, Tryz.ntmps40
    go_wp2_with (first
      | (go_at_call 69; (with_reducible refine (hD _).mono ?_); rintro X w1 ⟨rfl, hb⟩; replace E := E.on hb; replace C := E.cells; simp [BC, CF] at C; clear hb)
      | (go_at_call 70; (with_reducible refine (hF _ (envb E)).mono ?_); rintro X w2 ⟨rfl, rfl⟩)
      | (go_at_call 71; (with_reducible refine (hN _).mono ?_); rintro X w2 ⟨rfl, rfl⟩)
      | (go_at_call 50; (with_reducible refine (hS _).mono ?_); rintro X w3 ⟨rfl, hb⟩; replace E := E.on hb; replace C := E.cells; simp [BC, CF] at C; clear hb))
    go_ret
    exact ⟨rfl, E.1⟩
  cases hl : (len == n)
  · simp only [Bool.false_and, Bool.true_and]
    have q1 : ((len : Int) == (n : Int)) = false := by simp at hl ⊢; omega
    clear hl
    go_enter Tryz.func40, Tryz.ntmps40
    go_wp2_with (first
      | (go_at_call 69; (with_reducible refine (hD _).mono ?_); rintro X w1 ⟨rfl, hb⟩; replace E := E.on hb; replace C := E.cells; simp [BC, CF] at C; clear hb)
      | (go_at_call 70; (with_reducible refine (hF _ (envb E)).mono ?_); rintro X w2 ⟨rfl, rfl⟩)
      | (go_at_call 71; (with_reducible refine (hN _).mono ?_); rintro X w2 ⟨rfl, rfl⟩)
      | (go_at_call 50; (with_reducible refine (hS _).mono ?_); rintro X w3 ⟨rfl, hb⟩; replace E := E.on hb; replace C := E.cells; simp [BC, CF] at C; clear hb))
    go_ret
    exact ⟨rfl, E.1⟩
  have q1 : ((len : Int) == (n : Int)) = true := by simp at hl ⊢; omega
  clear hl
  cases FT
  · simp only [Bool.false_and, Bool.true_and]
    go_enter Tryz.func40, Tryz.ntmps40
    go_wp2_with (first
      | (go_at_call 69; (with_reducible refine (hD _).mono ?_); rintro X w1 ⟨rfl, hb⟩; replace E := E.on hb; replace C := E.cells; simp [BC, CF] at C; clear hb)
      | (go_at_call 70; (with_reducible refine (hF _ (envb E)).mono ?_); rintro X w2 ⟨rfl, rfl⟩)
      | (go_at_call 71; (with_reducible refine (hN _).mono ?_); rintro X w2 ⟨rfl, rfl⟩)
      | (go_at_call 50; (with_reducible refine (hS _).mono ?_); rintro X w3 ⟨rfl, hb⟩; replace E := E.on hb; replace C := E.cells; simp [BC, CF] at C; clear hb))
    go_ret
    exact ⟨rfl, E.1⟩
  cases NM
  · simp only [Bool.false_and, Bool.true_and]
    go_enter Tryz.func40, Tryz.ntmps40
    go_wp2_with (first
      | (go_at_call 69; (with_reducible refine (hD _).mono ?_); rintro X w1 ⟨rfl, hb⟩; replace E := E.on hb; replace C := E.cells; simp [BC, CF] at C; clear hb)
      | (go_at_call 70; (with_reducible refine (hF _ (envb E)).mono ?_); rintro X w2 ⟨rfl, rfl⟩)
      | (go_at_call 71; (with_reducible refine (hN _).mono ?_); rintro X w2 ⟨rfl, rfl⟩)
      | (go_at_call 50; (with_reducible refine (hS _).mono ?_); rintro X w3 ⟨rfl, hb⟩; replace E := E.on hb; replace C := E.cells; simp [BC, CF] at C; clear hb))
    go_ret
    exact ⟨rfl, E.1⟩
  cases SZ
  · simp only [Bool.false_and, Bool.true_and]
    go_enter Tryz.func40, Tryz.ntmps40
    go_wp2_with (first
      | (go_at_call 69; (with_reducible refine (hD _).mono ?_); rintro X w1 ⟨rfl, hb⟩; replace E := E.on hb; replace C := E.cells; simp [BC, CF] at C; clear hb)
      | (go_at_call 70; (with_reducible refine (hF _ (envb E)).mono ?_); rintro X w2 ⟨rfl, rfl⟩)
      | (go_at_call 71; (with_reducible refine (hN _).mono ?_); rintro X w2 ⟨rfl, rfl⟩)
      | (go_at_call 50; (with_reducible refine (hS _).mono ?_); rintro X w3 ⟨rfl, hb⟩; replace E := E.on hb; replace C := E.cells; simp [BC, CF] at C; clear hb))
    go_ret
    exact ⟨rfl, E.1⟩
  cases h1 : decide (1 ≤ ct)
  · simp only [Bool.false_and, Bool.true_and]
    have t1 : decide (ct ≥ 1) = false := h1
    go_enter Tryz.func40, Tryz.ntmps40
    go_wp2_with (first
      | (go_at_call 69; (with_reducible refine (hD _).mono ?_); rintro X w1 ⟨rfl, hb⟩; replace E := E.on hb; replace C := E.cells; simp [BC, CF] at C; clear hb)
      | (go_at_call 70; (with_reducible refine (hF _ (envb E)).mono ?_); rintro X w2 ⟨rfl, rfl⟩)
      | (go_at_call 71; (with_reducible refine (hN _).mono ?_); rintro X w2 ⟨rfl, rfl⟩)
      | (go_at_call 50; (with_reducible refine (hS _).mono ?_); rintro X w3 ⟨rfl, hb⟩; replace E := E.on hb; replace C := E.cells; simp [BC, CF] at C; clear hb))
    go_ret
    exact ⟨rfl, E.1⟩
  have t1 : decide (ct ≥ 1) = true := h1
  cases h2 : decide (ct ≤ 1000)
  · simp only [Bool.true_and]
    go_enter Tryz.func40, Tryz.ntmps40
    go_wp2_with (first
      | (go_at_call 69; (with_reducible refine (hD _).mono ?_); rintro X w1 ⟨rfl, hb⟩; replace E := E.on hb; replace C := E.cells; simp [BC, CF] at C; clear hb)
      | (go_at_call 70; (with_reducible refine (hF _ (envb E)).mono ?_); rintro X w2 ⟨rfl, rfl⟩)
      | (go_at_call 71; (with_reducible refine (hN _).mono ?_); rintro X w2 ⟨rfl, rfl⟩)
      | (go_at_call 50; (with_reducible refine (hS _).mono ?_); rintro X w3 ⟨rfl, hb⟩; replace E := E.on hb; replace C := E.cells; simp [BC, CF] at C; clear hb))
    go_ret
    exact ⟨rfl, E.1⟩
  · simp only [Bool.true_and]
    go_enter Tryz.func40, Tryz.ntmps40
    go_wp2_with (first
      | (go_at_call 69; (with_reducible refine (hD _).mono ?_); rintro X w1 ⟨rfl, hb⟩; replace E := E.on hb; replace C := E.cells; simp [BC, CF] at C; clear hb)
      | (go_at_call 70; (with_reducible refine (hF _ (envb E)).mono ?_); rintro X w2 ⟨rfl, rfl⟩)
      | (go_at_call 71; (with_reducible refine (hN _).mono ?_); rintro X w2 ⟨rfl, rfl⟩)
      | (go_at_call 50; (with_reducible refine (hS _).mono ?_); rintro X w3 ⟨rfl, hb⟩; replace E := E.on hb; replace C := E.cells; simp [BC, CF] at C; clear hb))
    go_ret
    exact ⟨rfl, E.1⟩
end Go.Proofs.YthdafpbmmfelpaaGreatDoor
