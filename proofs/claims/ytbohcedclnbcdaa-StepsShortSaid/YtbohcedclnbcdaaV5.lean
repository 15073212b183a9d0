/- slices.Equal at steps; At. -/
import Derived.Test.YtbohcedclnbcdaaV1
namespace Go.Proofs.Ytbohcedclnbcdaa
open Go.ChangeShapes Go.WideShapes Go.ChangeAt Go.RowKit
set_option linter.unusedVariables false
set_option linter.unusedSimpArgs false

theorem run_neq34 (w : World) (a b c d : Int) : (binOp .neq 34 (.agg #[.int .i64 a, .int .i64 b]) (.agg #[.int .i64 c, .int .i64 d])).run Try.prog w = .ok (.bool (!(decide (a = c) && decide (b = d)))) w := by
  have u3 : Try.prog.underlying 3 = some (.int .i64) := Try.underlying3
  have hsz : ∀ w, (sizeOf 3).run Try.prog w = .ok 1 w := fun w => by kernel_rfl
  have p0 : ∀ (w : World) (x y : Int), (part 3 #[.int .i64 x, .int .i64 y] 0).run Try.prog w = .ok (.int .i64 x) w := fun w x y => by simp [part, isAgg, run_underlying u3]
  have p1 : ∀ (w : World) (x y : Int), (part 3 #[.int .i64 x, .int .i64 y] 1).run Try.prog w = .ok (.int .i64 y) w := fun w x y => by simp [part, isAgg, run_underlying u3]
  rw [run_neq_struct]
  have key : (Op.equalIn 10000 34 (.agg #[.int .i64 a, .int .i64 b]) (.agg #[.int .i64 c, .int .i64 d])).run Try.prog w = .ok (decide (a = c) && decide (b = d)) w := by
    rw [show (10000 : Nat) = 9999 + 1 from rfl, run_equalIn_struct w 9999 34 _ _ (by kernel_rfl) (by kernel_rfl)]
    have e0 : ∀ (w : World) (x y : Int), (Op.equalIn 9999 3 (.int .i64 x) (.int .i64 y)).run Try.prog w = .ok (x == y) w := fun w x y => run_equalIn_int w 9998 3 .i64 .i64 x y u3
    have hm : ((Try.prog.fieldsOf 34).toList.map fun f => (f.type, f.offset, decide (f.name = "_"))) = [(3, 0, false), (3, 1, false)] := by kernel_rfl
    obtain ⟨f0, f1, ef, t0, o0, t1, o1, b0, b1⟩ : ∃ f0 f1, (Try.prog.fieldsOf 34).toList = [f0, f1] ∧ f0.type = 3 ∧ f0.offset = 0 ∧ f1.type = 3 ∧ f1.offset = 1 ∧ f0.name ≠ "_" ∧ f1.name ≠ "_" := by
      generalize (Try.prog.fieldsOf 34).toList = L at hm
      rcases L with _ | ⟨f0, _ | ⟨f1, _ | ⟨f2, r⟩⟩⟩
      · simp at hm
      · simp at hm
      · simp at hm
        exact ⟨f0, f1, rfl, hm.1.1, hm.1.2.1, hm.2.1, hm.2.2.1, hm.1.2.2, hm.2.2.2⟩
      · simp at hm
    rw [ef]
    by_cases h1 : a = c
    · subst h1
      by_cases h2 : b = d
      · subst h2; simp [Op.eqFields, t0, o0, t1, o1, b0, b1, p0, p1, e0, Sem.run_bind]
      · simp [Op.eqFields, t0, o0, t1, o1, b0, b1, p0, p1, e0, Sem.run_bind, h2]
    · simp [Op.eqFields, t0, o0, t1, o1, b0, b1, p0, p1, e0, Sem.run_bind, h1]
  rw [key, Result.andThen_ok]
theorem eq_of_at {l m : List Stp} (hl : l.length = m.length) (h : ∀ (j : Nat) (a : j < l.length) (b : j < m.length), l[j].1 = m[j].1 ∧ l[j].2 = m[j].2) : l = m :=
  List.ext_getElem hl fun j a b => Prod.ext (h j a b).1 (h j a b).2
set_option maxHeartbeats 2000000 in
set_option maxRecDepth 100000 in
theorem equal_any (p q : Option Addr) (l m : List Stp) (c d : Nat) (w : World) (h1 : Sl w p l) (h2 : Sl w q m) :
    Calls Try.prog 18 #[.slice p l.length c, .slice q m.length d] w fun e w' => e = .returned (.bool (decide (l = m))) ∧ ∃ n, w' = w.drewN n := by
  have hm := h1.2.2.1
  unfold maxLen at hm
  by_cases hl : l.length = m.length
  · have t1 : ((l.length : Int) != (m.length : Int)) = false := by simp; omega
    have HL := Lib.hid hl
    clear hl
    go_enter Try.func18, Try.ntmps18
    go_wp2
    go_loopw [13] (fun v wr => ∃ k : Nat, v = .int .i64 k ∧ k ≤ l.length ∧ Hid (∀ j (a : j < l.length) (b : j < m.length), j < k → l[j].1 = m[j].1 ∧ l[j].2 = m[j].2) ∧ ∃ n, wr = w.drewN n) (fun v _ => l.length - (intOf v).toNat)
    case atStart => exact ⟨0, rfl, Nat.zero_le _, Lib.hid (fun j a b h => absurd h (Nat.not_lt_zero j)), 0, rfl⟩
    case round =>
      obtain ⟨k, rfl, hk, hE, nd, rfl⟩ := hrel
      by_cases hlt : k < l.length
      · have g1 : decide ((k : Int) < (l.length : Int)) = true := by simp [hlt]
        have hlt2 : k < m.length := by rw [← HL.out]; exact hlt
        have W1 : IntKind.i64.wrap ((k : Int) + 1) = ((k + 1 : Nat) : Int) := by rw [IntWalk.i64_in _ (by omega)]; omega
        obtain ⟨a, rfl, c0, c1⟩ := h1.at hlt
        obtain ⟨b, rfl, d0, d1⟩ := h2.at hlt2
        have q1 : (0 : Int) ≤ (k : Int) := by omega
        have q2 : (k : Int) < (l.length : Int) := by omega
        have q3 : (k : Int) < (m.length : Int) := by omega
        obtain ⟨x, hxx⟩ : ∃ x, x = l[k].1 := ⟨_, rfl⟩
        obtain ⟨x', hxx'⟩ : ∃ x, x = l[k].2 := ⟨_, rfl⟩
        obtain ⟨y, hyy⟩ : ∃ y, y = m[k].1 := ⟨_, rfl⟩
        obtain ⟨y', hyy'⟩ : ∃ y, y = m[k].2 := ⟨_, rfl⟩
        rw [← hxx] at c0
        rw [← hxx'] at c1
        rw [← hyy] at d0
        rw [← hyy'] at d1
        have HX := Lib.hid (And.intro hxx (And.intro hxx' (And.intro hyy hyy')))
        clear hxx hxx' hyy hyy'
        have q34 := fun w => run_neq34 w x x' y y'
        cases hv : (decide (x = y) && decide (x' = y'))
        · rw [hv] at q34
          have HN : Hid (¬ (x = y ∧ x' = y')) := Lib.hid fun h => by simp [h.1, h.2] at hv
          clear hv
          go_wp2_with fail
          go_quiet (fail)
          go_wp2
          go_ret
          have : decide (l = m) = false := decide_eq_false fun h => HN.out (by
            obtain ⟨e1, e2, e3, e4⟩ := HX.out
            subst h
            exact ⟨e1.trans e3.symm, e2.trans e4.symm⟩)
          exact ⟨by rw [this]; rfl, _, World.drewN_drewN _ _ _⟩
        · rw [hv] at q34
          have HN : Hid (x = y ∧ x' = y') := Lib.hid (by simpa using hv)
          clear hv
          have HE : Hid (∀ j (a : j < l.length) (b : j < m.length), j < k + 1 → l[j].1 = m[j].1 ∧ l[j].2 = m[j].2) := Lib.hid fun j a b h => by
            rcases Nat.lt_or_ge j k with h1 | h1
            · exact hE.out j a b h1
            · have : j = k := by omega
              subst this
              obtain ⟨e1, e2, e3, e4⟩ := HX.out
              rw [← e1, ← e2, ← e3, ← e4]; exact HN.out
          go_wp2_with fail
          go_quiet (fail)
          go_wp2
          exact ⟨⟨k + 1, rfl, hlt, HE, _, rfl⟩, by simp [intOf]; omega⟩
      · have g1 : decide ((k : Int) < (l.length : Int)) = false := by simp; omega
        go_wp2
        go_ret
        have : decide (l = m) = true := decide_eq_true (eq_of_at HL.out fun j a b => hE.out j a b (by omega))
        exact ⟨by rw [this]; rfl, _, rfl⟩
  · have t1 : ((l.length : Int) != (m.length : Int)) = true := by simp; omega
    have HL := Lib.hid hl
    clear hl
    go_enter Try.func18, Try.ntmps18
    go_wp2
    go_ret
    have : decide (l = m) = false := decide_eq_false fun h => HL.out (by rw [h])
    exact ⟨by rw [this]; rfl, 0, rfl⟩
theorem at_any (p : Option Addr) (l : List Stp) (cap : Nat) (x : Int) (w : World) (hS : Sl w p l) :
    Calls Try.prog 13 #[.slice p l.length cap, .int .i64 x] w fun e w' => e = .returned (.tuple #[.int .i64 (if okS l then va l x else 0), .int .i64 (if okS l then 0 else 1)]) ∧ Below w.heap.size w w' := by
  have h1 := valid_any p l cap w hS
  cases ho : okS l
  · rw [ho] at h1
    go_enter Try.func13, Try.ntmps13
    go_wp2_with (go_at_call 16; (with_reducible refine h1.mono ?_); rintro e w1 ⟨rfl, hb⟩)
    exact bodyPost_ret (v := .tuple #[.int .i64 0, .int .i64 1]) (by simp [results, Try.results13, go_sem]) rfl ⟨rfl, hb⟩
  · rw [ho] at h1
    have h2 := fun W h => value_any p l cap x W h (okS_to ho).asc
    obtain ⟨v, hv⟩ : ∃ v, v = va l x := ⟨_, rfl⟩
    rw [← hv] at h2 ⊢
    clear hv ho
    go_enter Try.func13, Try.ntmps13
    go_wp2_with (first
      | (go_at_call 16; (with_reducible refine h1.mono ?_); rintro e w1 ⟨rfl, hb⟩; have hS1 := hS.on hb)
      | (go_at_call 39; (with_reducible refine (h2 _ hS1).mono ?_); rintro e w2 ⟨rfl, hb2⟩))
    exact bodyPost_ret (v := .tuple #[.int .i64 v, .int .i64 0]) (by simp [results, Try.results13, go_sem]) rfl ⟨rfl, belows hb hb2⟩
end Go.Proofs.Ytbohcedclnbcdaa
