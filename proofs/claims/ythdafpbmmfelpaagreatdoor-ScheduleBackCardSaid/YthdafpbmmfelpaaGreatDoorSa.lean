/- Same of both sides (ported by hand from layer 12). -/
import Derived.Test.YthdafpbmmfelpaaGreatDoorM4
import Derived.Test.YthdafpbmmfelpaaGreatDoorBl
namespace Go.Proofs.YthdafpbmmfelpaaGreatDoor
open Go.ChangeShapes Go.WideShapes Go.ChangeAt Go.RowKit
set_option linter.unusedVariables false
set_option linter.unusedSimpArgs false

set_option maxRecDepth 100000 in
set_option maxHeartbeats 2000000 in
theorem equalz_any (v v' : Value) (xs ys : List Int) (w : World) (h1 : Rdz w v xs) (h2 : Rdz w v' ys) (hx : xs.length ≤ 100000) :
    Calls Tryz.prog 94 #[v, v'] w fun e w' => e = .returned (.bool (decide (xs = ys))) ∧ Below w.heap.size w w' := by
  obtain ⟨q, c, rfl, k1⟩ := h1
  obtain ⟨q', c', rfl, k2⟩ := h2
  by_cases hl : xs.length = ys.length
  · have t1 : ((xs.length : Int) != (ys.length : Int)) = false := by simp; omega
    have HL := Lib.hid hl
    have K1 := Lib.hid k1
    have K2 := Lib.hid k2
    clear hl k1 k2
    go_enter Tryz.func94, Tryz.ntmps94
    go_wp2
    go_loopw [13] (fun v wr => ∃ k : Nat, v = .int .i64 k ∧ k ≤ xs.length ∧ Hid (∀ j (a : j < xs.length) (b : j < ys.length), j < k → xs[j] = ys[j]) ∧ ∃ n, wr = w.drewN n) (fun v _ => xs.length - (intOf v).toNat)
    case atStart => exact ⟨0, rfl, Nat.zero_le _, Lib.hid (fun j a b h => absurd h (Nat.not_lt_zero j)), 0, rfl⟩
    case round =>
      obtain ⟨k, rfl, hk, hE, nd, rfl⟩ := hrel
      by_cases hlt : k < xs.length
      · have g1 : decide ((k : Int) < (xs.length : Int)) = true := by simp [hlt]
        have hlt2 : k < ys.length := by rw [← HL.out]; exact hlt
        have W1 : IntKind.i64.wrap ((k : Int) + 1) = ((k + 1 : Nat) : Int) := by rw [IntWalk.i64_in _ (by omega)]; omega
        obtain ⟨g, rfl, c1⟩ := K1.out k hlt
        obtain ⟨g', rfl, c2⟩ := K2.out k hlt2
        obtain ⟨x, hxx⟩ : ∃ x, x = xs[k] := ⟨_, rfl⟩
        obtain ⟨y, hyy⟩ : ∃ y, y = ys[k] := ⟨_, rfl⟩
        rw [← hxx] at c1
        rw [← hyy] at c2
        have HX := Lib.hid hxx
        have HY := Lib.hid hyy
        clear hxx hyy
        have q1 : (0 : Int) ≤ (k : Int) := by omega
        have q2 : (k : Int) < (xs.length : Int) := by omega
        have q3 : (k : Int) < (ys.length : Int) := by omega
        by_cases e : x = y
        · have HE : Hid (∀ j (a : j < xs.length) (b : j < ys.length), j < k + 1 → xs[j] = ys[j]) := Lib.hid fun j a b h => by
            rcases Nat.lt_or_ge j k with h1 | h1
            · exact hE.out j a b h1
            · have : j = k := by omega
              subst this
              rw [← HX.out, ← HY.out, e]
          subst e
          have t2 : ((x : Int) != (x : Int)) = false := by simp
          go_wp2_with fail
          go_quiet (fail)
          go_wp2
          exact ⟨⟨k + 1, rfl, hlt, HE, _, rfl⟩, by simp [intOf]; omega⟩
        · have HN := Lib.hid e
          have t2 : ((x : Int) != (y : Int)) = true := by simp; omega
          clear e
          go_wp2_with fail
          go_quiet (fail)
          go_wp2
          go_ret
          refine ⟨?_, by first | exact below_drewN (Below.refl _ _) _ | exact below_drewN (below_drewN (Below.refl _ _) _) _⟩
          have : decide (xs = ys) = false := by
            apply decide_eq_false
            intro h
            subst h
            exact HN.out (by rw [HX.out, HY.out])
          rw [this]; rfl
      · have g1 : decide ((k : Int) < (xs.length : Int)) = false := by simp; omega
        go_wp2
        go_ret
        refine ⟨?_, below_drewN (Below.refl _ _) _⟩
        have : decide (xs = ys) = true := decide_eq_true (List.ext_getElem HL.out fun j a b => hE.out j a b (by omega))
        rw [this]; rfl
  · have t1 : ((xs.length : Int) != (ys.length : Int)) = true := by simp; omega
    have HN := Lib.hid hl
    clear hl k1 k2
    go_enter Tryz.func94, Tryz.ntmps94
    go_wp2
    go_ret
    refine ⟨?_, Below.refl _ _⟩
    have : decide (xs = ys) = false := by
      apply decide_eq_false
      intro h
      exact HN.out (by rw [h])
    rw [this]; rfl
def smB (a b : Bar) : Bool := (a.size == b.size) && ((a.code == b.code) && decide (a.ds = b.ds))
theorem smB_comm (a b : Bar) : smB b a = smB a b := by
  unfold smB
  have e1 : (b.size == a.size) = (a.size == b.size) := by rw [Bool.eq_iff_iff]; simp; omega
  have e2 : (b.code == a.code) = (a.code == b.code) := by rw [Bool.eq_iff_iff]; simp; omega
  have e3 : decide (b.ds = a.ds) = decide (a.ds = b.ds) := by simp only [decide_eq_decide]; exact ⟨Eq.symm, Eq.symm⟩
  rw [e1, e2, e3]
theorem equalz_bar (a b : Bar) (W : World) (ha : a.Ok W) (hb : b.Ok W) (hl : a.ds.length ≤ 100000) :
    Calls Tryz.prog 94 #[.slice a.p a.ds.length a.cap, .slice b.p b.ds.length b.cap] W fun e w' => e = .returned (.bool (decide (a.ds = b.ds))) ∧ Below W.heap.size W w' :=
  equalz_any _ _ _ _ W ha.rd hb.rd hl
set_option maxHeartbeats 8000000 in
set_option maxRecDepth 100000 in
theorem Same_no (a b : Bar) (w : World) (ha : a.Ok w) (hb : b.Ok w) (hv : barB a = false ∨ barB b = false) :
    Calls Tryz.prog 58 #[a.val, b.val] w fun e w' => e = .returned (.tuple #[.bool false, .int .i64 1]) ∧ Below w.heap.size w w' := by
  have hVa := fun W (h : Below w.heap.size w W) => Valid_any a W (ha.on h)
  have hVb := fun W (h : Below w.heap.size w W) => Valid_any b W (hb.on h)
  have E := ((Env.nil w).add w.heap.size 60 a.cs rfl).add (w.heap.size + 1) 60 b.cs (by simp)
  have va : a.val = .agg a.cs := rfl
  have vb : b.val = .agg b.cs := rfl
  have ca : a.cs = #[.string a.mark, .int .i64 a.size, .int .i64 a.count, .int .i64 a.code, .slice a.p a.ds.length a.cap] := rfl
  have cb : b.cs = #[.string b.mark, .int .i64 b.size, .int .i64 b.count, .int .i64 b.code, .slice b.p b.ds.length b.cap] := rfl
  rw [va, ca] at hVa ⊢
  rw [vb, cb] at hVb ⊢
  rw [ca, cb] at E
  clear va vb ca cb ha hb
  generalize barB a = VA at *
  generalize barB b = VB at *
  have C := E.cells
  simp [BC, CF] at C
  cases VA
  · clear hv
    go_enter Tryz.func58, Tryz.ntmps58
    go_wp2_with (first
      | (go_at_call 40; (first | (with_reducible refine (hVa _ (envb E)).mono ?_) | (with_reducible refine (hVb _ (envb E)).mono ?_)); rintro X w1 ⟨rfl, hb⟩; replace E := E.on hb; replace C := E.cells; simp [BC, CF] at C; clear hb))
    exact bodyPost_ret (v := .tuple #[.bool false, .int .i64 1]) (by simp [results, Tryz.results58, go_sem]) rfl ⟨rfl, envb E⟩
  · have e : VB = false := by rcases hv with h | h; cases h; exact h
    subst e
    clear hv
    go_enter Tryz.func58, Tryz.ntmps58
    go_wp2_with (first
      | (go_at_call 40; (first | (with_reducible refine (hVa _ (envb E)).mono ?_) | (with_reducible refine (hVb _ (envb E)).mono ?_)); rintro X w1 ⟨rfl, hb⟩; replace E := E.on hb; replace C := E.cells; simp [BC, CF] at C; clear hb))
    exact bodyPost_ret (v := .tuple #[.bool false, .int .i64 1]) (by simp [results, Tryz.results58, go_sem]) rfl ⟨rfl, envb E⟩
set_option maxHeartbeats 8000000 in
set_option maxRecDepth 100000 in
theorem Same_ok (a b : Bar) (w : World) (ha : a.Ok w) (hb : b.Ok w) (hva : barB a = true) (hvb : barB b = true) :
    Calls Tryz.prog 58 #[a.val, b.val] w fun e w' => e = .returned (.tuple #[.bool (smB a b), .int .i64 0]) ∧ Below w.heap.size w w' := by
  have hVa := fun W (h : Below w.heap.size w W) => Valid_any a W (ha.on h)
  have hVb := fun W (h : Below w.heap.size w W) => Valid_any b W (hb.on h)
  have hl : a.ds.length ≤ 100000 := by
    obtain ⟨-, h2, -⟩ := barB_and hva
    have := ndim_le a.code; omega
  have hQ := fun W (h : Below w.heap.size w W) => equalz_bar a b W (ha.on h) (hb.on h) hl
  rw [hva] at hVa
  rw [hvb] at hVb
  have E := ((Env.nil w).add w.heap.size 60 a.cs rfl).add (w.heap.size + 1) 60 b.cs (by simp)
  have va : a.val = .agg a.cs := rfl
  have vb : b.val = .agg b.cs := rfl
  have ca : a.cs = #[.string a.mark, .int .i64 a.size, .int .i64 a.count, .int .i64 a.code, .slice a.p a.ds.length a.cap] := rfl
  have cb : b.cs = #[.string b.mark, .int .i64 b.size, .int .i64 b.count, .int .i64 b.code, .slice b.p b.ds.length b.cap] := rfl
  rw [va, ca] at hVa ⊢
  rw [vb, cb] at hVb ⊢
  rw [ca, cb] at E
  clear va vb ca cb ha hb hva hvb hl
  unfold smB
  generalize decide (a.ds = b.ds) = D at *
  have C := E.cells
  simp [BC, CF] at C
  cases q0 : (a.size == b.size)
  · simp only [Bool.false_and]
    go_enter Tryz.func58, Tryz.ntmps58
    go_wp2_with (first
      | (go_at_call 40; (first | (with_reducible refine (hVa _ (envb E)).mono ?_) | (with_reducible refine (hVb _ (envb E)).mono ?_)); rintro X w1 ⟨rfl, hb⟩; replace E := E.on hb; replace C := E.cells; simp [BC, CF] at C; clear hb)
      | (go_at_call 94; (with_reducible refine (hQ _ (envb E)).mono ?_); rintro X w2 ⟨rfl, hb⟩; replace E := E.on hb; replace C := E.cells; simp [BC, CF] at C; clear hb))
    exact bodyPost_ret (v := .tuple #[.bool false, .int .i64 0]) (by simp [results, Tryz.results58, go_sem]) rfl ⟨rfl, envb E⟩
  cases q1 : (a.code == b.code)
  · simp only [Bool.false_and, Bool.true_and]
    go_enter Tryz.func58, Tryz.ntmps58
    go_wp2_with (first
      | (go_at_call 40; (first | (with_reducible refine (hVa _ (envb E)).mono ?_) | (with_reducible refine (hVb _ (envb E)).mono ?_)); rintro X w1 ⟨rfl, hb⟩; replace E := E.on hb; replace C := E.cells; simp [BC, CF] at C; clear hb)
      | (go_at_call 94; (with_reducible refine (hQ _ (envb E)).mono ?_); rintro X w2 ⟨rfl, hb⟩; replace E := E.on hb; replace C := E.cells; simp [BC, CF] at C; clear hb))
    exact bodyPost_ret (v := .tuple #[.bool false, .int .i64 0]) (by simp [results, Tryz.results58, go_sem]) rfl ⟨rfl, envb E⟩
  · simp only [Bool.true_and]
    go_enter Tryz.func58, Tryz.ntmps58
    go_wp2_with (first
      | (go_at_call 40; (first | (with_reducible refine (hVa _ (envb E)).mono ?_) | (with_reducible refine (hVb _ (envb E)).mono ?_)); rintro X w1 ⟨rfl, hb⟩; replace E := E.on hb; replace C := E.cells; simp [BC, CF] at C; clear hb)
      | (go_at_call 94; (with_reducible refine (hQ _ (envb E)).mono ?_); rintro X w2 ⟨rfl, hb⟩; replace E := E.on hb; replace C := E.cells; simp [BC, CF] at C; clear hb))
    exact bodyPost_ret (v := .tuple #[.bool D, .int .i64 0]) (by simp [results, Tryz.results58, go_sem]) rfl ⟨rfl, envb E⟩
set_option maxHeartbeats 8000000 in
set_option maxRecDepth 100000 in
theorem rSame_any (a b : Bar) (w : World) (ha : a.Ok w) (hb : b.Ok w) (hl : a.ds.length ≤ 100000) :
    Calls Tryz.prog 62 #[a.val, b.val] w fun e w' => e = .returned (.bool (smB a b)) ∧ Below w.heap.size w w' := by
  have E := ((Env.nil w).add w.heap.size 60 a.cs rfl).add (w.heap.size + 1) 60 b.cs (by simp)
  have va : a.val = .agg a.cs := rfl
  have vb : b.val = .agg b.cs := rfl
  have ca : a.cs = #[.string a.mark, .int .i64 a.size, .int .i64 a.count, .int .i64 a.code, .slice a.p a.ds.length a.cap] := rfl
  have cb : b.cs = #[.string b.mark, .int .i64 b.size, .int .i64 b.count, .int .i64 b.code, .slice b.p b.ds.length b.cap] := rfl
  have hda := ha.rd
  have hdb := hb.rd
  unfold Bar.sv at hda hdb
  rw [va, ca, vb, cb]
  rw [ca, cb] at E
  clear va vb ca cb ha hb
  have C := E.cells
  simp [BC, CF] at C
  obtain ⟨q, c0, e1, hda⟩ := hda
  simp only [Value.slice.injEq] at e1
  obtain ⟨rfl, -, rfl⟩ := e1
  obtain ⟨q', c0, e1, hdb⟩ := hdb
  simp only [Value.slice.injEq] at e1
  obtain ⟨rfl, -, rfl⟩ := e1
  have K1 := Lib.hid hda
  have K2 := Lib.hid hdb
  unfold smB
  clear hda hdb
  obtain ⟨am, asz, act, acd, ap, xs, acap⟩ := a
  obtain ⟨bm, bsz, bct, bcd, bp, ys, bcap⟩ := b
  dsimp only at *
  cases q0 : (asz == bsz)
  · have r0 : (asz != bsz) = true := by simp [bne, q0]
    simp only [Bool.false_and]
    go_enter Tryz.func62, Tryz.ntmps62
    go_wp2
    go_ret
    exact ⟨rfl, envb E⟩
  have r0 : (asz != bsz) = false := by simp [bne, q0]
  cases q1 : (acd == bcd)
  · have r1 : (acd != bcd) = true := by simp [bne, q1]
    simp only [Bool.false_and, Bool.true_and]
    go_enter Tryz.func62, Tryz.ntmps62
    go_wp2
    go_ret
    exact ⟨rfl, envb E⟩
  have r1 : (acd != bcd) = false := by simp [bne, q1]
  simp only [Bool.true_and]
  clear q0 q1
  by_cases hle : xs.length = ys.length
  · have t1 : ((xs.length : Int) != (ys.length : Int)) = false := by simp; omega
    have HL := Lib.hid hle
    clear hle
    go_enter Tryz.func62, Tryz.ntmps62
    go_wp2
    go_loopw [5] (fun v wr => ∃ k : Nat, v = .int .i64 k ∧ k ≤ xs.length ∧ Hid (∀ j (a : j < xs.length) (b : j < ys.length), j < k → xs[j] = ys[j]) ∧ Env w wr [⟨w.heap.size + 1, 60, #[.string bm, .int .i64 bsz, .int .i64 bct, .int .i64 bcd, .slice bp ys.length bcap]⟩, ⟨w.heap.size, 60, #[.string am, .int .i64 asz, .int .i64 act, .int .i64 acd, .slice ap xs.length acap]⟩]) (fun v _ => xs.length - (intOf v).toNat)
    case atStart => exact ⟨0, rfl, Nat.zero_le _, Lib.hid (fun j a b h => absurd h (Nat.not_lt_zero j)), E⟩
    case round =>
      clear E C
      obtain ⟨k, rfl, hk, hE, E⟩ := hrel
      have C := E.cells
      simp [BC, CF] at C
      by_cases hlt : k < xs.length
      · have g1 : decide ((k : Int) < (xs.length : Int)) = true := by simp [hlt]
        have hlt2 : k < ys.length := by rw [← HL.out]; exact hlt
        have W1 : IntKind.i64.wrap ((k : Int) + 1) = ((k + 1 : Nat) : Int) := by rw [IntWalk.i64_in _ (by omega)]; omega
        obtain ⟨g, rfl, c1⟩ := K1.out k hlt
        obtain ⟨g', rfl, c2⟩ := K2.out k hlt2
        replace c1 := cellLater (envb E) c1
        replace c2 := cellLater (envb E) c2
        obtain ⟨x, hxx⟩ : ∃ x, x = xs[k] := ⟨_, rfl⟩
        obtain ⟨y, hyy⟩ : ∃ y, y = ys[k] := ⟨_, rfl⟩
        rw [← hxx] at c1
        rw [← hyy] at c2
        have HX := Lib.hid hxx
        have HY := Lib.hid hyy
        clear hxx hyy
        have q1 : (0 : Int) ≤ (k : Int) := by omega
        have q2 : (k : Int) < (xs.length : Int) := by omega
        have q3 : (k : Int) < (ys.length : Int) := by omega
        by_cases e : x = y
        · have HE : Hid (∀ j (a : j < xs.length) (b : j < ys.length), j < k + 1 → xs[j] = ys[j]) := Lib.hid fun j a b h => by
            rcases Nat.lt_or_ge j k with h1 | h1
            · exact hE.out j a b h1
            · have : j = k := by omega
              subst this
              rw [← HX.out, ← HY.out, e]
          subst e
          have t2 : ((x : Int) != (x : Int)) = false := by simp
          go_wp2_with fail
          go_quiet (fail)
          go_wp2
          exact ⟨⟨k + 1, rfl, hlt, HE, E.dr _⟩, by simp [intOf]; omega⟩
        · have HN := Lib.hid e
          have t2 : ((x : Int) != (y : Int)) = true := by simp; omega
          clear e
          go_wp2_with fail
          go_quiet (fail)
          go_wp2
          go_ret
          refine ⟨?_, envb (E.dr _)⟩
          have : decide (xs = ys) = false := by
            apply decide_eq_false
            intro h
            subst h
            exact HN.out (by rw [HX.out, HY.out])
          rw [this]; rfl
      · have g1 : decide ((k : Int) < (xs.length : Int)) = false := by simp; omega
        go_wp2
        go_ret
        refine ⟨?_, envb E⟩
        have : decide (xs = ys) = true := decide_eq_true (List.ext_getElem HL.out fun j a b => hE.out j a b (by omega))
        rw [this]; rfl
  · have t1 : ((xs.length : Int) != (ys.length : Int)) = true := by simp; omega
    have HN := Lib.hid hle
    clear hle
    go_enter Tryz.func62, Tryz.ntmps62
    go_wp2
    go_ret
    refine ⟨?_, envb E⟩
    have : decide (xs = ys) = false := by
      apply decide_eq_false
      intro h
      exact HN.out (by rw [h])
    rw [this]; rfl

end Go.Proofs.YthdafpbmmfelpaaGreatDoor
