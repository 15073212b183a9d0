/- volumeOf; the iterator as a value; parts are boxes with widths (pure). -/
import Derived.Test.YtkgaahmehmbfjaaTg
import Derived.Test.YtkgaahmehmbfjaaShm
namespace Go.Proofs.Ytkgaahmehmbfjaa
open Go.ChangeShapes Go.WideShapes Go.ChangeAt Go.RowKit Go.Maps
set_option linter.unusedVariables false
set_option linter.unusedSimpArgs false

/-- The volume of a box. -/
def volB (x : Bx) : Int := (x.d - x.a) * (x.e - x.b) * (x.f - x.c)
theorem prod_bd {a b A B : Int} (h0 : 0 ≤ a) (h1 : a ≤ A) (k0 : 0 ≤ b) (k1 : b ≤ B) : 0 ≤ a * b ∧ a * b ≤ A * B := ⟨Int.mul_nonneg h0 k0, Int.mul_le_mul h1 k1 k0 (by omega)⟩
theorem area_bd {x : Bx} (h : tkB x = true) : 0 ≤ (x.d - x.a) * (x.e - x.b) ∧ (x.d - x.a) * (x.e - x.b) ≤ 4398046511104 := by
  have h := tk_i.1 h
  have := prod_bd (a := x.d - x.a) (b := x.e - x.b) (A := 2097152) (B := 2097152) (by omega) (by omega) (by omega) (by omega)
  omega
theorem vol_bd {x : Bx} (h : tkB x = true) : 0 ≤ volB x ∧ volB x ≤ 9223372036854775808 := by
  have h1 := area_bd h
  have h := tk_i.1 h
  have := prod_bd (a := (x.d - x.a) * (x.e - x.b)) (b := x.f - x.c) (A := 4398046511104) (B := 2097152) h1.1 h1.2 (by omega) (by omega)
  unfold volB; omega
theorem part_tk {l h : List Bx} (hv : okS l h = true) : ∀ x ∈ parts l h, tkB x = true := by
  obtain ⟨-, -, hl, hh⟩ := okS_i.1 hv
  have key : ∀ ax, ∀ s ∈ strs l h ax, -1048576 ≤ s.lo ∧ s.lo < s.hi ∧ s.hi ≤ 1048576 := fun ax s hs => by
    obtain ⟨p, hp, rfl⟩ := List.mem_map.1 hs
    obtain ⟨ha, hm⟩ := srt_asc (pls l ax ++ pls h ax)
    obtain ⟨⟨k1, k2⟩, k3, -⟩ := prs_apart _ ha p hp
    have rng : ∀ z ∈ places l h ax, -1048576 ≤ z ∧ z ≤ 1048576 := fun z hz => by
      have hz := (hm z).1 hz
      have one : ∀ m : List Bx, (∀ x ∈ m, tkB x = true) → z ∈ pls m ax → -1048576 ≤ z ∧ z ≤ 1048576 := fun m hm hz => by
        obtain ⟨x, hx, hz⟩ := List.mem_flatMap.1 hz
        have hx := tk_i.1 (hm x hx)
        simp only [List.mem_cons, List.not_mem_nil, or_false] at hz
        rcases ax with _ | _ | ax <;> simp only [pk] at hz <;> omega
      rcases List.mem_append.1 hz with hz | hz
      · exact one l hl hz
      · exact one h hh hz
    have r1 := rng _ k1
    have r2 := rng _ k2
    simp only [sxOf]; omega
  intro x hx
  unfold parts prtL rowY rowZ at hx
  simp only [List.mem_flatMap] at hx
  obtain ⟨a, ha, b, hb, c, hc, hx⟩ := hx
  split at hx
  · rw [List.mem_singleton] at hx
    subst hx
    have := key 0 a ha
    have := key 1 b hb
    have := key 2 c hc
    rw [tk_i]
    simp only [bxX]; omega
  · cases hx
theorem parts_56 (p q : Option Addr) (l h : List Bx) (c d : Nat) (w : World) : Calls Try.prog 56 #[.agg #[.slice p l.length c, .slice q h.length d]] w fun e w' => e = .returned (.func (.func 78) #[] #[.pointer (some ⟨w.heap.size, 0, none⟩)]) ∧ w' = w.alloc (.cells #[.slice p l.length c, .slice q h.length d] 24) := by
  go_enter Try.func56, Try.ntmps56
  go_wp2
  go_ret
  exact ⟨rfl, rfl⟩
set_option maxHeartbeats 8000000 in
set_option maxRecDepth 100000 in
theorem volOf_any (x : Bx) (w : World) (hx : tkB x = true) : Calls Try.prog 57 #[x.val] w fun e w' => e = .returned (if volB x ≤ 1152921504606846976 then .tuple #[.int .i64 (volB x), .bool true] else .tuple #[.int .i64 0, .bool false]) ∧ Below w.heap.size w w' := by
  have hb := tk_i.1 hx
  have ha := area_bd hx
  have hv := vol_bd hx
  have E := (Env.nil w).add w.heap.size 30 #[.int .i64 x.a, .int .i64 x.b, .int .i64 x.c, .int .i64 x.d, .int .i64 x.e, .int .i64 x.f] rfl
  have C := E.cells
  simp [BC, CF] at C
  unfold volB Bx.val at *
  have W1 : IntKind.i64.wrap (x.d - x.a) = x.d - x.a := IntWalk.i64_in _ (by omega)
  have W2 : IntKind.i64.wrap (x.e - x.b) = x.e - x.b := IntWalk.i64_in _ (by omega)
  obtain ⟨n, hn⟩ : ∃ n : Nat, ((n : Nat) : Int) = (x.d - x.a) * (x.e - x.b) := ⟨((x.d - x.a) * (x.e - x.b)).toNat, by omega⟩
  obtain ⟨m, hm⟩ : ∃ m : Nat, ((m : Nat) : Int) = x.f - x.c := ⟨(x.f - x.c).toNat, by omega⟩
  have W3 : IntKind.i64.wrap (x.f - x.c) = (m : Int) := by rw [hm]; exact IntWalk.i64_in _ (by omega)
  have W4 : IntKind.i64.wrap ((x.d - x.a) * (x.e - x.b)) = (n : Int) := by rw [hn]; exact IntWalk.i64_in _ (by omega)
  have hnm : ((n * m : Nat) : Int) = (x.d - x.a) * (x.e - x.b) * (x.f - x.c) := by rw [Int.natCast_mul, hn, hm]
  rw [← hnm] at hv ⊢
  rw [← hn] at ha
  have W5 : IntKind.u64.wrap (n : Int) = (n : Int) := IntWalk.u64_in _ (by omega)
  have W6 : IntKind.u64.wrap (m : Int) = (m : Int) := IntWalk.u64_in _ (by omega)
  have hM := Try.bits_Mul64 n m (by omega) (by omega)
  have hdz : n * m / 18446744073709551616 = 0 := Nat.div_eq_of_lt (by omega)
  have hmz : n * m % 18446744073709551616 = n * m := Nat.mod_eq_of_lt (by omega)
  rw [hdz, hmz] at hM
  clear hnm hn hm hb ha
  generalize n * m = T at *
  by_cases hT : (T : Int) ≤ 1152921504606846976
  · rw [if_pos hT]
    have q1 : decide ((1152921504606846976 : Int) < (T : Int)) = false := by simp; omega
    have W7 : IntKind.i64.wrap (T : Int) = (T : Int) := IntWalk.i64_in _ (by omega)
    go_enter Try.func57, Try.ntmps57
    go_wp2_with (go_at_call 80; (with_reducible refine (hM _).mono ?_); rintro X wq ⟨rfl, rfl⟩)
    refine bodyPost_ret (v := .tuple #[.int .i64 (T : Int), .bool true]) (by simp [results, Try.results57, go_sem]) rfl ⟨rfl, E.1⟩
  · rw [if_neg hT]
    have q1 : decide ((1152921504606846976 : Int) < (T : Int)) = true := by simp; omega
    go_enter Try.func57, Try.ntmps57
    go_wp2_with (go_at_call 80; (with_reducible refine (hM _).mono ?_); rintro X wq ⟨rfl, rfl⟩)
    refine bodyPost_ret (v := .tuple #[.int .i64 0, .bool false]) (by simp [results, Try.results57, go_sem]) rfl ⟨rfl, E.1⟩
end Go.Proofs.Ytkgaahmehmbfjaa
