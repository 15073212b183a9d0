/- The contract of Root. -/
import Derived.Test.YtplepbaafamjfaaV3
namespace Go.Proofs.Ytplepbaafamjfaa
open Go.ChangeShapes Go.WideShapes Go.ChangeAt Go.RowKit
set_option linter.unusedVariables false
set_option linter.unusedSimpArgs false

theorem sroot_bad (al ah : Int) (w : World) (hv : sB al ah = false) :
    Calls Try.prog 28 #[.agg #[.int .i64 al, .int .i64 ah]] w fun e w' => e = .returned (.tuple #[.agg #[.int .i64 0, .int .i64 0], .int .i64 1]) ∧ Below w.heap.size w w' := by
  go_enter Try.func28, Try.ntmps28
  go_wp2_with (go_at_call 16; refine (svalid_any _ _ _).mono ?_; rw [hv]; rintro e w1 ⟨rfl, hb⟩; have E := (env_two w al ah 0 0 23 23).on hb; have C := E.cells; simp only [BC] at C; clear hb)
  refine bodyPost_ret (v := .tuple #[.agg #[.int .i64 0, .int .i64 0], .int .i64 1]) (by simp [results, Try.results28, go_sem, C]) rfl ⟨rfl, ?_⟩
  exact (E.1.setCell (by simp) _).setCell (by simp) _
theorem sroot_neg (al ah : Int) (w : World) (va : SV al ah) (h : al < 0) :
    Calls Try.prog 28 #[.agg #[.int .i64 al, .int .i64 ah]] w fun e w' => e = .returned (.tuple #[.agg #[.int .i64 0, .int .i64 0], .int .i64 2]) ∧ Below w.heap.size w w' := by
  have hA := sB_t.2 va
  obtain ⟨a1, a2, a3⟩ := va
  go_enter Try.func28, Try.ntmps28
  go_wp2_with (go_at_call 16; refine (svalid_any _ _ _).mono ?_; rw [hA]; rintro e w1 ⟨rfl, hb⟩; have E := (env_two w al ah 0 0 23 23).on hb; have C := E.cells; simp only [BC] at C; clear hb)
  refine bodyPost_ret (v := .tuple #[.agg #[.int .i64 0, .int .i64 0], .int .i64 2]) (by simp [results, Try.results28, go_sem, C]) rfl ⟨rfl, ?_⟩
  exact (E.1.setCell (by simp) _).setCell (by simp) _

/-- What a root's call gives: the whole roots, the upper one raised where its square is too small. -/
def RootR (al ah x y : Int) : Prop := IsRoot x al ∧ ∃ r, IsRoot r ah ∧ y = if r * r < ah then r + 1 else r
def AnyRoots (al ah : Int) (w : World) (e : Ending) (w' : World) : Prop := ∃ x y, RootR al ah x y ∧ e = .returned (.tuple #[.agg #[.int .i64 x, .int .i64 y], .int .i64 0]) ∧ Below w.heap.size w w'
def RootTo (n r : Int) (w : World) (e : Ending) (w' : World) : Prop := e = .returned (.int .i64 r) ∧ w = w'
/-- There is a whole root. -/
theorem root_to (n : Int) (h1 : 0 ≤ n) (h2 : n ≤ 1152921504606846976) : ∃ r, IsRoot r n := by
  have key : ∀ m : Nat, ∃ r : Nat, r * r ≤ m ∧ m < (r + 1) * (r + 1) := by
    intro m
    induction m with
    | zero => exact ⟨0, by omega, by omega⟩
    | succ k ih =>
      obtain ⟨r, a, b⟩ := ih
      by_cases c : k + 1 < (r + 1) * (r + 1)
      · exact ⟨r, by omega, c⟩
      · exact ⟨r + 1, by omega, by have e : (r + 1 + 1) * (r + 1 + 1) = (r + 1) * (r + 1) + 2 * r + 3 := by grind
                                   omega⟩
  obtain ⟨r, a, b⟩ := key n.toNat
  refine ⟨(r : Int), by omega, ?_, ?_⟩
  · have : ((r * r : Nat) : Int) ≤ n := by omega
    rw [Int.natCast_mul] at this; exact this
  · have : n < (((r + 1) * (r + 1) : Nat) : Int) := by omega
    rw [Int.natCast_mul] at this; exact this
theorem root_is (n r : Int) (w : World) (h1 : 0 ≤ n) (h2 : n ≤ 1152921504606846976) (hr : IsRoot r n) :
    Calls Try.prog 54 #[.int .i64 n] w fun e w' => e = .returned (.int .i64 r) ∧ w = w' :=
  (root_any n w h1 h2).mono fun e w' ⟨s, hs, he, hw⟩ => ⟨by rw [he, root_unique hs hr], hw⟩

theorem four_r {w0 w : World} {a b c d : Int} {g k : Nat} {t u : TypeId} (h : Env w0 w [⟨g, t, a, b⟩, ⟨k, u, c, d⟩]) : w.cell? ⟨k, 0, none⟩ = some (.int .i64 c) ∧ w.cell? ⟨k, 1, none⟩ = some (.int .i64 d) ∧ Env w0 w [⟨g, t, a, b⟩, ⟨k, u, c, d⟩] :=
  ⟨h.cells.2.1.1, h.cells.2.1.2.1, h⟩

theorem Env.fr1 {w0 w : World} {l : List Fb} (h : Env w0 w l) (o : Obj) : Env w0 (w.alloc o).drew l := h.on (al1 w o).drew
theorem Env.fr2 {w0 w : World} {l : List Fb} (h : Env w0 w l) (o : Obj) (u v : Value) : Env w0 (((w.alloc o).drew.setCell ⟨w.heap.size, 0, none⟩ u).setCell ⟨w.heap.size, 1, none⟩ v) l :=
  h.on (((al1 w o).drew.setCell (Nat.le_refl _) _).setCell (Nat.le_refl _) _)

set_option maxHeartbeats 2000000 in
theorem sroot_ok (al ah x y r : Int) (w : World) (va : SV al ah) (h : 0 ≤ al) (hx : IsRoot x al) (hr : IsRoot r ah) (hy : y = if r * r < ah then r + 1 else r) :
    Calls Try.prog 28 #[.agg #[.int .i64 al, .int .i64 ah]] w fun e w' => e = .returned (.tuple #[.agg #[.int .i64 x, .int .i64 y], .int .i64 0]) ∧ Below w.heap.size w w' := by
  have hA := sB_t.2 va
  obtain ⟨a1, a2, a3⟩ := va
  have h1 := fun W => root_is al x W h (by omega) hx
  have h2 := fun W => root_is ah r W (by omega) (by omega) hr
  have bx := root_b hx (by omega)
  have br := root_b hr (by omega)
  have x0 := hx.1
  have r0 := hr.1
  have rr : r * r ≤ 1152921504606846976 := by have := hr.2.1; omega
  have rn : 0 ≤ r * r := Int.mul_nonneg r0 r0
  have W1 : IntKind.i64.wrap (r * r) = r * r := IntWalk.i64_in _ (by omega)
  clear hx hr
  by_cases c : r * r < ah
  · rw [if_pos c] at hy
    subst hy
    go_enter Try.func28, Try.ntmps28
    go_wp2_with (go_at_call 16; refine (svalid_any _ _ _).mono ?_; rw [hA]; rintro e w1 ⟨rfl, hb⟩; have E := (env_two w al ah 0 0 23 23).on hb; have C := E.cells; simp only [BC] at C; clear hb)
    go_region_held3 (fun w' => w'.cell? ⟨w.heap.size, 0, none⟩ = some (.int .i64 al) ∧ w'.cell? ⟨w.heap.size, 1, none⟩ = some (.int .i64 ah) ∧ Env w w' [⟨w.heap.size + 1, 23, 0, 0⟩, ⟨w.heap.size, 23, al, ah⟩])
      (first | with_reducible exact four_r (Env.dr E ⟨1, rfl⟩) | with_reducible exact four_r (Env.fr1 E _) | with_reducible exact four_r (Env.fr2 E _ _ _) | exact four_r (Env.dr E ⟨1, rfl⟩) | exact four_r (Env.fr1 E _) | exact four_r (Env.fr2 E _ _ _) | go_keep)
      (first | (go_at_call 54; first | ((with_reducible refine (h1 _).mono ?_); rintro e w2 ⟨rfl, rfl⟩) | ((with_reducible refine (h2 _).mono ?_); rintro e w2 ⟨rfl, rfl⟩)))
    all_goals
      rename_i hH
      clear hH
      have E3 : Env w (w1.alloc (Obj.cells #[Value.int IntKind.i64 x, Value.int IntKind.i64 r] 23)).drew _ := (E.add x r 23).dr ⟨1, rfl⟩
      have s0 := C.1.2.2.1
      clear C E
      generalize (w1.alloc (Obj.cells #[Value.int IntKind.i64 x, Value.int IntKind.i64 r] 23)).drew = w3 at *
      have C := E3.cells
      simp only [BC] at C
      go_wp2
      refine bodyPost_ret (v := .tuple #[.agg #[.int .i64 x, .int .i64 (r + 1)], .int .i64 0]) (by simp [results, Try.results28, go_sem, C]) rfl ⟨rfl, ?_⟩
      repeat (refine Below.setCell ?_ (by first | (simp; done) | (simp; omega)) _)
      exact E3.1
  · rw [if_neg c] at hy
    subst hy
    go_enter Try.func28, Try.ntmps28
    go_wp2_with (go_at_call 16; refine (svalid_any _ _ _).mono ?_; rw [hA]; rintro e w1 ⟨rfl, hb⟩; have E := (env_two w al ah 0 0 23 23).on hb; have C := E.cells; simp only [BC] at C; clear hb)
    go_region_held3 (fun w' => w'.cell? ⟨w.heap.size, 0, none⟩ = some (.int .i64 al) ∧ w'.cell? ⟨w.heap.size, 1, none⟩ = some (.int .i64 ah) ∧ Env w w' [⟨w.heap.size + 1, 23, 0, 0⟩, ⟨w.heap.size, 23, al, ah⟩])
      (first | with_reducible exact four_r (Env.dr E ⟨1, rfl⟩) | with_reducible exact four_r (Env.fr1 E _) | with_reducible exact four_r (Env.fr2 E _ _ _) | exact four_r (Env.dr E ⟨1, rfl⟩) | exact four_r (Env.fr1 E _) | exact four_r (Env.fr2 E _ _ _) | go_keep)
      (first | (go_at_call 54; first | ((with_reducible refine (h1 _).mono ?_); rintro e w2 ⟨rfl, rfl⟩) | ((with_reducible refine (h2 _).mono ?_); rintro e w2 ⟨rfl, rfl⟩)))
    all_goals
      rename_i hH
      clear hH
      have E3 : Env w (w1.alloc (Obj.cells #[Value.int IntKind.i64 x, Value.int IntKind.i64 y] 23)).drew _ := (E.add x y 23).dr ⟨1, rfl⟩
      have s0 := C.1.2.2.1
      clear C E
      generalize (w1.alloc (Obj.cells #[Value.int IntKind.i64 x, Value.int IntKind.i64 y] 23)).drew = w3 at *
      have C := E3.cells
      simp only [BC] at C
      go_wp2
      refine bodyPost_ret (v := .tuple #[.agg #[.int .i64 x, .int .i64 (y)], .int .i64 0]) (by simp [results, Try.results28, go_sem, C]) rfl ⟨rfl, ?_⟩
      repeat (refine Below.setCell ?_ (by first | (simp; done) | (simp; omega)) _)
      exact E3.1
end Go.Proofs.Ytplepbaafamjfaa
