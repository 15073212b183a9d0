/- ShapeBoxes: the hull touches; Contains on six trues. -/
import Derived.Test.YtcadghenjcaaiaaBx
namespace Go.Proofs.Ytcadghenjcaaiaa
open Go.ChangeShapes Go.WideShapes Go.ChangeAt Go.RowKit
set_option linter.unusedVariables false
set_option linter.unusedSimpArgs false

theorem fold_mn (sel : Bx → Int) (h : ∀ x y, sel (hullB x y) = mn (sel x) (sel y)) : ∀ (l : List Bx) (x : Bx), (∀ y ∈ x :: l, sel (l.foldl hullB x) ≤ sel y) ∧ ∃ y ∈ x :: l, sel (l.foldl hullB x) = sel y
  | [], x => by simp
  | z :: l, x => by
    obtain ⟨h1, y, hy, e⟩ := fold_mn sel h l (hullB x z)
    rw [List.foldl_cons]
    have hm := h x z
    have h0 := h1 _ (List.mem_cons_self ..)
    have hmn : mn (sel x) (sel z) ≤ sel x ∧ mn (sel x) (sel z) ≤ sel z ∧ (mn (sel x) (sel z) = sel x ∨ mn (sel x) (sel z) = sel z) := by unfold mn; split <;> omega
    refine ⟨fun y hy => ?_, ?_⟩
    · rcases List.mem_cons.1 hy with rfl | hy
      · omega
      · rcases List.mem_cons.1 hy with rfl | hy
        · omega
        · exact h1 y (List.mem_cons_of_mem _ hy)
    · rcases List.mem_cons.1 hy with rfl | hy
      · rcases hmn.2.2 with k | k
        · exact ⟨x, by simp, by omega⟩
        · exact ⟨z, by simp, by omega⟩
      · exact ⟨y, by simp [hy], e⟩
theorem fold_mx (sel : Bx → Int) (h : ∀ x y, sel (hullB x y) = mx (sel x) (sel y)) : ∀ (l : List Bx) (x : Bx), (∀ y ∈ x :: l, sel y ≤ sel (l.foldl hullB x)) ∧ ∃ y ∈ x :: l, sel (l.foldl hullB x) = sel y
  | [], x => by simp
  | z :: l, x => by
    obtain ⟨h1, y, hy, e⟩ := fold_mx sel h l (hullB x z)
    rw [List.foldl_cons]
    have hm := h x z
    have h0 := h1 _ (List.mem_cons_self ..)
    have hmn : sel x ≤ mx (sel x) (sel z) ∧ sel z ≤ mx (sel x) (sel z) ∧ (mx (sel x) (sel z) = sel x ∨ mx (sel x) (sel z) = sel z) := by unfold mx; split <;> omega
    refine ⟨fun y hy => ?_, ?_⟩
    · rcases List.mem_cons.1 hy with rfl | hy
      · omega
      · rcases List.mem_cons.1 hy with rfl | hy
        · omega
        · exact h1 y (List.mem_cons_of_mem _ hy)
    · rcases List.mem_cons.1 hy with rfl | hy
      · rcases hmn.2.2 with k | k
        · exact ⟨x, by simp, by omega⟩
        · exact ⟨z, by simp, by omega⟩
      · exact ⟨y, by simp [hy], e⟩
/-- Whether a point touches a side of a box: 0 to 2 the low ones, 3 to 5 the high ones. -/
def tou (R : Bx) (p : Pt) : Nat → Bool
  | 0 => p.x == R.a
  | 1 => p.y == R.b
  | 2 => p.z == R.c
  | 3 => p.x == R.d
  | 4 => p.y == R.e
  | _ => p.z == R.f
def touA (R : Bx) (l : List Pt) (j : Nat) : Bool := l.any fun p => tou R p j
theorem touA_step {R : Bx} {l : List Pt} {k : Nat} (hk : k < l.length) (j : Nat) : touA R (l.take (k + 1)) j = (touA R (l.take k) j || tou R l[k] j) := by
  unfold touA
  rw [List.take_succ_eq_append_getElem hk, List.any_append]; simp
theorem hull_ne {PS : List Pt} (h : 0 < PS.length) : ∃ x l, PS.map bxp = x :: l ∧ hullL (PS.map bxp) = l.foldl hullB x := by
  match PS, h with
  | p :: r, _ => exact ⟨bxp p, r.map bxp, rfl, rfl⟩
theorem hull_in {PS : List Pt} {k : Nat} (hk : k < PS.length) : let R := hullL (PS.map bxp); (R.a ≤ PS[k].x ∧ PS[k].x ≤ R.d) ∧ (R.b ≤ PS[k].y ∧ PS[k].y ≤ R.e) ∧ (R.c ≤ PS[k].z ∧ PS[k].z ≤ R.f) := by
  obtain ⟨x, l, e1, e2⟩ := hull_ne (PS := PS) (by omega)
  intro R
  have hm : bxp PS[k] ∈ x :: l := by rw [← e1]; exact List.mem_map.2 ⟨_, List.getElem_mem hk, rfl⟩
  have hR : R = l.foldl hullB x := e2
  rw [hR]
  have a := (fold_mn Bx.a (fun _ _ => rfl) l x).1 _ hm
  have b := (fold_mn Bx.b (fun _ _ => rfl) l x).1 _ hm
  have c := (fold_mn Bx.c (fun _ _ => rfl) l x).1 _ hm
  have d := (fold_mx Bx.d (fun _ _ => rfl) l x).1 _ hm
  have e := (fold_mx Bx.e (fun _ _ => rfl) l x).1 _ hm
  have f := (fold_mx Bx.f (fun _ _ => rfl) l x).1 _ hm
  exact ⟨⟨a, d⟩, ⟨b, e⟩, c, f⟩
theorem hull_tou {PS : List Pt} (h : 0 < PS.length) (j : Nat) : touA (hullL (PS.map bxp)) PS j = true := by
  obtain ⟨x, l, e1, e2⟩ := hull_ne h
  unfold touA
  rw [List.any_eq_true, e2]
  have key : ∀ (sel : Bx → Int) (s : Pt → Int), (∀ p, sel (bxp p) = s p) → (∃ y ∈ x :: l, sel (l.foldl hullB x) = sel y) → ∃ p ∈ PS, s p = sel (l.foldl hullB x) := by
    rintro sel s hs ⟨y, hy, e⟩
    rw [← e1] at hy
    obtain ⟨p, hp, rfl⟩ := List.mem_map.1 hy
    exact ⟨p, hp, by rw [e, hs]⟩
  match j with
  | 0 => obtain ⟨p, hp, e⟩ := key Bx.a Pt.x (fun _ => rfl) (fold_mn Bx.a (fun _ _ => rfl) l x).2; exact ⟨p, hp, by simp [tou, e]⟩
  | 1 => obtain ⟨p, hp, e⟩ := key Bx.b Pt.y (fun _ => rfl) (fold_mn Bx.b (fun _ _ => rfl) l x).2; exact ⟨p, hp, by simp [tou, e]⟩
  | 2 => obtain ⟨p, hp, e⟩ := key Bx.c Pt.z (fun _ => rfl) (fold_mn Bx.c (fun _ _ => rfl) l x).2; exact ⟨p, hp, by simp [tou, e]⟩
  | 3 => obtain ⟨p, hp, e⟩ := key Bx.d Pt.x (fun _ => rfl) (fold_mx Bx.d (fun _ _ => rfl) l x).2; exact ⟨p, hp, by simp [tou, e]⟩
  | 4 => obtain ⟨p, hp, e⟩ := key Bx.e Pt.y (fun _ => rfl) (fold_mx Bx.e (fun _ _ => rfl) l x).2; exact ⟨p, hp, by simp [tou, e]⟩
  | j + 5 => obtain ⟨p, hp, e⟩ := key Bx.f Pt.z (fun _ => rfl) (fold_mx Bx.f (fun _ _ => rfl) l x).2; exact ⟨p, hp, by simp [tou, e]⟩
set_option maxRecDepth 100000 in
theorem index_true (g : Nat) (w : World) (h : ∀ j, j < 6 → w.cell? ⟨g, j, none⟩ = some (.bool true)) : Calls Try.prog 43 #[.slice (some ⟨g, 0, none⟩) 6 6, .bool false] w fun e w' => e = .returned (.int .i64 (-1)) ∧ w = w' := by
  have H := Lib.hid h
  clear h
  go_enter Try.func43, Try.ntmps43
  go_wp2
  go_loop [8] (fun v => ∃ k : Nat, v = .int .i64 k ∧ k ≤ 6) (fun v => 6 - (intOf v).toNat)
  case atStart => exact ⟨0, rfl, by omega⟩
  case round =>
    obtain ⟨k, rfl, hk⟩ := hrel
    by_cases hlt : k < 6
    · have g1 : decide ((k : Int) < 6) = true := by simp; omega
      have W1 : IntKind.i64.wrap ((k : Int) + 1) = ((k + 1 : Nat) : Int) := by rw [IntWalk.i64_in _ (by omega)]; omega
      have q1 : (0 : Int) ≤ (k : Int) := by omega
      have q2 : (k : Int) < 6 := by omega
      have d := H.out k hlt
      go_wp2
      exact ⟨⟨k + 1, rfl, hlt⟩, by simp [intOf]; omega⟩
    · have g1 : decide ((k : Int) < 6) = false := by simp; omega
      go_wp2
      go_ret
      exact ⟨rfl, rfl⟩
theorem contains_true (g : Nat) (w : World) (h : ∀ j, j < 6 → w.cell? ⟨g, j, none⟩ = some (.bool true)) : Calls Try.prog 30 #[.slice (some ⟨g, 0, none⟩) 6 6, .bool false] w fun e w' => e = .returned (.bool false) ∧ w = w' := by
  have H := Lib.hid h
  clear h
  go_enter Try.func30, Try.ntmps30
  go_wp2_with (go_at_call 43; (with_reducible refine (index_true g _ H.out).mono ?_); rintro X w1 ⟨rfl, rfl⟩)
  go_ret
  exact ⟨rfl, rfl⟩
theorem nine_at (a b c d e f g h i : Int) (w : World) (k : Nat) (hk : k < 3) : Sem.run Try.prog (Instr.index 59 (.agg #[.int .i64 a, .int .i64 b, .int .i64 c, .int .i64 d, .int .i64 e, .int .i64 f, .int .i64 g, .int .i64 h, .int .i64 i]) (.int .i64 k)) w =
    .ok (if k = 0 then .agg #[.int .i64 a, .int .i64 b, .int .i64 c] else if k = 1 then .agg #[.int .i64 d, .int .i64 e, .int .i64 f] else .agg #[.int .i64 g, .int .i64 h, .int .i64 i]) w := by
  rcases (by omega : k = 0 ∨ k = 1 ∨ k = 2) with rfl | rfl | rfl <;> simp [Instr.index, go_sem, Try.underlying59]
end Go.Proofs.Ytcadghenjcaaiaa
