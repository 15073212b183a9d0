/- The reference's Places, Below and Sum. -/
import Derived.Test.YtbohcedclnbcdaaL4
namespace Go.Proofs.Ytbohcedclnbcdaa
open Go.ChangeShapes Go.WideShapes Go.ChangeAt Go.RowKit
set_option linter.unusedVariables false
set_option linter.unusedSimpArgs false

def zs (l : List Int) : List Value := l.map fun x => Value.int .i64 x
theorem zs_app (l m : List Int) : zs (l ++ m) = zs l ++ zs m := by simp [zs]
/-- Whole numbers in memory of the call's own. -/
def OwnI (B : Nat) (w : World) (v : Value) (l : List Int) : Prop := w.ownsRow B 3 1 v l.length (zs l)
theorem OwnI.on {B : Nat} {w w' : World} {v : Value} {l : List Int} (h : OwnI B w v l) (hb : Below w.heap.size w w') : OwnI B w' v l := own_on h hb
theorem OwnI.form {B : Nat} {w : World} {v : Value} {l : List Int} (h : OwnI B w v l) : ∃ p c, v = .slice p l.length c := by
  obtain ⟨hl, ⟨rfl, h0⟩ | ⟨g, cap, cur, rfl, hB, hg, r⟩⟩ := h
  · exact ⟨none, 0, by rw [h0]⟩
  · exact ⟨_, cap, rfl⟩
/-- Whole numbers that can be read. -/
def Ri (w : World) (p : Option Addr) (l : List Int) : Prop := ∀ j (h : j < l.length), ∃ a, p = some a ∧ w.cell? (a.add j) = some (.int .i64 l[j])
theorem Ri.on {w w1 : World} {p : Option Addr} {l : List Int} (h : Ri w p l) (hb : Below w.heap.size w w1) : Ri w1 p l := fun j hj => by
  obtain ⟨a, e, hc⟩ := h j hj
  exact ⟨a, e, cell_later hb hc⟩
theorem OwnI.ri {B : Nat} {w : World} {p : Option Addr} {n c : Nat} {l : List Int} (h : OwnI B w (.slice p n c) l) : Ri w p l := fun j hj => by
  have h' := h
  obtain ⟨hl, ⟨e, h0⟩ | ⟨g, cap, cur, e, hB, hg, r⟩⟩ := h
  · omega
  · cases e
    refine ⟨⟨g, 0, none⟩, rfl, ?_⟩
    rw [Addr.add_lit, Nat.zero_add, World.ownsRow.cellAt h' (j := j) (by omega)]
    simp [zs, hj]
theorem tg_fst (n : Nat) (p q p' q' : Int) (a b : List Stp) : (tg n p q a b).map (·.1) = (tg n p' q' a b).map (·.1) := by
  induction n generalizing p q p' q' a b with
  | zero => rfl
  | succ n ih =>
    cases h : nx a b with
    | none => rw [tg_none h, tg_none h]
    | some x =>
      rw [tg_some h, tg_some h]
      have e1 : (ad x p a).2 = (ad x p' a).2 := by
        cases a with
        | nil => rfl
        | cons s a => by_cases e : s.1 = x <;> simp [ad, e]
      have e2 : (ad x q b).2 = (ad x q' b).2 := by
        cases b with
        | nil => rfl
        | cons s b => by_cases e : s.1 = x <;> simp [ad, e]
      rw [e1, e2, List.map_cons, List.map_cons, ih _ _ (ad x p' a).1 (ad x q' b).1]
def pls (la lb : List Stp) : List Int := (tog la lb).map (·.1)
/-- One step of the places. -/
theorem pls_step {la lb : List Stp} {n i k : Nat} {x : Int} (h : nx (la.drop i) (lb.drop k) = some x) {A B : List Stp} (hA : (ad x 0 (la.drop i)).2 = A) (hB : (ad x 0 (lb.drop k)).2 = B) :
    (tg (n + 1) 0 0 (la.drop i) (lb.drop k)).map (·.1) = x :: (tg n 0 0 A B).map (·.1) := by
  rw [tg_some h, List.map_cons, hA, hB]
  congr 1
  exact tg_fst _ _ _ _ _ _ _
set_option maxHeartbeats 4000000 in
set_option maxRecDepth 100000 in
theorem places_any (p q : Option Addr) (la lb : List Stp) (ca cb : Nat) (w : World) (hA : Sl w p la) (hB : Sl w q lb) (la2 : la.length ≤ 1000) (lb2 : lb.length ≤ 1000) :
    Calls Try.prog 47 #[.slice p la.length ca, .slice q lb.length cb] w fun e w' => ∃ v, e = .returned v ∧ OwnI w.heap.size w' v (pls la lb) ∧ Below w.heap.size w w' := by
  obtain ⟨i0, hi, hz0, hz1, hz2⟩ := info_parts info3
  go_enter Try.func47, Try.ntmps47
  go_wp2
  go_loopw [5, 6, 7] (fun v iv kv wr => ∃ (i k n : Nat) (done : List Int), iv = .int .i64 i ∧ kv = .int .i64 k ∧ i ≤ la.length ∧ k ≤ lb.length ∧ (la.drop i).length + (lb.drop k).length ≤ n ∧ done.length ≤ i + k ∧
      pls la lb = done ++ (tg n 0 0 (la.drop i) (lb.drop k)).map (·.1) ∧ OwnI w.heap.size wr v done ∧ Below w.heap.size w wr) (fun v iv kv _ => la.length + lb.length - ((intOf iv).toNat + (intOf kv).toNat))
  case atStart => exact ⟨0, 0, la.length + lb.length, [], rfl, rfl, Nat.zero_le _, Nat.zero_le _, by simp, by simp, rfl, World.ownsRow_nil _ _ _ _, Below.refl _ _⟩
  case round =>
    obtain ⟨i, k, n, done, rfl, rfl, hil, hkl, hn, hdl, hT, ho, hb⟩ := hrel
    have Wi : IntKind.i64.wrap ((i : Int) + 1) = ((i + 1 : Nat) : Int) := by rw [IntWalk.i64_in _ (by omega)]; omega
    have Wk : IntKind.i64.wrap ((k : Int) + 1) = ((k + 1 : Nat) : Int) := by rw [IntWalk.i64_in _ (by omega)]; omega
    have HB := Lib.hid hb
    by_cases hi1 : i < la.length
    · by_cases hk1 : k < lb.length
      · rcases Int.lt_trichotomy la[i].1 lb[k].1 with hc | hc | hc
        · obtain ⟨aa, rfl, a0, -⟩ := (hA.on hb).at hi1
          have ga : decide ((i : Int) < (la.length : Int)) = true := by simp [hi1]
          have qa1 : (0 : Int) ≤ (i : Int) := by omega
          have qa2 : (i : Int) < (la.length : Int) := by omega
          obtain ⟨bb, rfl, b0, -⟩ := (hB.on hb).at hk1
          have gb : decide ((k : Int) < (lb.length : Int)) = true := by simp [hk1]
          have qb1 : (0 : Int) ≤ (k : Int) := by omega
          have qb2 : (k : Int) < (lb.length : Int) := by omega
          have ge : ((k : Int) == (lb.length : Int)) = false := by simp; omega
          have ge2 : decide ((k : Int) = (lb.length : Int)) = false := by simp; omega
          have ge3 : (k == lb.length) = false := by simp; omega
          have hx : nx (la.drop i) (lb.drop k) = some la[i].1 := by rw [drop_at hi1, drop_at hk1]; simp only [nx, Option.some.injEq]; omega
          have gl : decide (la[i].1 < lb[k].1) = true := decide_eq_true hc
          have e1 : (la[i].1 == la[i].1) = true := by simp
          have e2 : (lb[k].1 == la[i].1) = false := by simp; omega
          have e3 : decide (lb[k].1 = la[i].1) = false := by simp; omega
          obtain ⟨n, rfl⟩ : ∃ n', n = n' + 1 := ⟨n - 1, by simp at hn; omega⟩
          rw [pls_step hx (A := la.drop (i + 1)) (B := lb.drop k) (by rw [ad_drop_yes hi1 rfl]) (by rw [ad_drop_no hk1 (by omega)])] at hT
          have HT : Hid (pls la lb = (done ++ [la[i].1]) ++ (tg n 0 0 (la.drop (i + 1)) (lb.drop k)).map (·.1)) := Lib.hid (by rw [List.append_assoc]; exact hT)
          have HN : Hid ((la.drop (i + 1)).length + (lb.drop k).length ≤ n) := Lib.hid (by simp at hn ⊢; omega)
          clear hT hx hn hc
          generalize la[i].1 = s at *
          generalize lb[k].1 = t at *
          have HI := Lib.hid (And.intro hil hkl)
          go_wp2_with fail
          go_quiet (fail)
          have hb' := below_drewN hb nq
          have ho' : OwnI w.heap.size (wr.drewN nq) _ done := ho
          have a0' : (wr.drewN nq).cell? (aa.add (i * 2)) = some (.int .i64 s) := a0
          have b0' : (wr.drewN nq).cell? (bb.add (k * 2)) = some (.int .i64 t) := b0
          clear ho hb a0 b0
          generalize wr.drewN nq = V at *
          have HNw := Has.new_ V 3 #[.int .i64 s]
          have hcl : ∀ (j : Nat) (u : Value), [Value.int .i64 s][j]? = some u → (V.alloc (.cells #[.int .i64 s] 3)).cell? ((⟨V.heap.size, 0, none⟩ : Addr).add j) = some u := fun j u h => by
            rw [Addr.add_lit, Nat.zero_add, HNw.read j]
            simpa using h
          have ho1 := ho'.on (al1 V (.cells #[.int .i64 s] 3))
          have hbk := World.ownsRow.lt ho'
          have BN := al hb' (.cells #[.int .i64 s] 3)
          clear HNw ho'
          go_wp2_with (at_builtin; refine wpList_append_own_at _ rfl _ _ 53 rfl w.heap.size 3 i0 _ 1 8 Try.underlying53 hi hz0 hz1 hz2 rfl (by decide) _ _ _ rfl ho1 ⟨V.heap.size, 0, none⟩ 1 1 [.int .i64 s] rfl rfl hcl (by simp [Value.oneCell']) (by unfold maxLen; omega) (by omega) (by have := hb'.size; simp; omega) ?_; intro v' w5 hown' hgrow _ _; have B5 := BN.grown hgrow BN.size (fun k e => (hbk _ e).1))
          exact ⟨⟨(i + 1), k, n, done ++ [s], rfl, rfl, by omega, by omega, HN.out, by simp; omega, HT.out, by unfold OwnI; rw [List.length_append, zs_app]; exact hown', B5⟩, by simp [intOf]; omega⟩
        · obtain ⟨aa, rfl, a0, -⟩ := (hA.on hb).at hi1
          have ga : decide ((i : Int) < (la.length : Int)) = true := by simp [hi1]
          have qa1 : (0 : Int) ≤ (i : Int) := by omega
          have qa2 : (i : Int) < (la.length : Int) := by omega
          obtain ⟨bb, rfl, b0, -⟩ := (hB.on hb).at hk1
          have gb : decide ((k : Int) < (lb.length : Int)) = true := by simp [hk1]
          have qb1 : (0 : Int) ≤ (k : Int) := by omega
          have qb2 : (k : Int) < (lb.length : Int) := by omega
          have ge : ((k : Int) == (lb.length : Int)) = false := by simp; omega
          have ge2 : decide ((k : Int) = (lb.length : Int)) = false := by simp; omega
          have ge3 : (k == lb.length) = false := by simp; omega
          have hx : nx (la.drop i) (lb.drop k) = some lb[k].1 := by rw [drop_at hi1, drop_at hk1]; simp only [nx, Option.some.injEq]; omega
          have gl : decide (la[i].1 < lb[k].1) = false := decide_eq_false (by omega)
          have e1 : (la[i].1 == lb[k].1) = true := by simp; omega
          have e2 : decide (la[i].1 = lb[k].1) = true := by simp; omega
          obtain ⟨n, rfl⟩ : ∃ n', n = n' + 1 := ⟨n - 1, by simp at hn; omega⟩
          rw [pls_step hx (A := la.drop (i + 1)) (B := lb.drop (k + 1)) (by rw [ad_drop_yes hi1 (by omega)]) (by rw [ad_drop_yes hk1 rfl])] at hT
          have HT : Hid (pls la lb = (done ++ [lb[k].1]) ++ (tg n 0 0 (la.drop (i + 1)) (lb.drop (k + 1))).map (·.1)) := Lib.hid (by rw [List.append_assoc]; exact hT)
          have HN : Hid ((la.drop (i + 1)).length + (lb.drop (k + 1)).length ≤ n) := Lib.hid (by simp at hn ⊢; omega)
          clear hT hx hn hc
          generalize la[i].1 = s at *
          generalize lb[k].1 = t at *
          have HI := Lib.hid (And.intro hil hkl)
          go_wp2_with fail
          go_quiet (fail)
          have hb' := below_drewN hb nq
          have ho' : OwnI w.heap.size (wr.drewN nq) _ done := ho
          have a0' : (wr.drewN nq).cell? (aa.add (i * 2)) = some (.int .i64 s) := a0
          have b0' : (wr.drewN nq).cell? (bb.add (k * 2)) = some (.int .i64 t) := b0
          clear ho hb a0 b0
          generalize wr.drewN nq = V at *
          have HNw := Has.new_ V 3 #[.int .i64 t]
          have hcl : ∀ (j : Nat) (u : Value), [Value.int .i64 t][j]? = some u → (V.alloc (.cells #[.int .i64 t] 3)).cell? ((⟨V.heap.size, 0, none⟩ : Addr).add j) = some u := fun j u h => by
            rw [Addr.add_lit, Nat.zero_add, HNw.read j]
            simpa using h
          have ho1 := ho'.on (al1 V (.cells #[.int .i64 t] 3))
          have hbk := World.ownsRow.lt ho'
          have BN := al hb' (.cells #[.int .i64 t] 3)
          clear HNw ho'
          go_wp2_with (at_builtin; refine wpList_append_own_at _ rfl _ _ 53 rfl w.heap.size 3 i0 _ 1 8 Try.underlying53 hi hz0 hz1 hz2 rfl (by decide) _ _ _ rfl ho1 ⟨V.heap.size, 0, none⟩ 1 1 [.int .i64 t] rfl rfl hcl (by simp [Value.oneCell']) (by unfold maxLen; omega) (by omega) (by have := hb'.size; simp; omega) ?_; intro v' w5 hown' hgrow _ _; have B5 := BN.grown hgrow BN.size (fun k e => (hbk _ e).1))
          exact ⟨⟨(i + 1), (k + 1), n, done ++ [t], rfl, rfl, by omega, by omega, HN.out, by simp; omega, HT.out, by unfold OwnI; rw [List.length_append, zs_app]; exact hown', B5⟩, by simp [intOf]; omega⟩
        · obtain ⟨aa, rfl, a0, -⟩ := (hA.on hb).at hi1
          have ga : decide ((i : Int) < (la.length : Int)) = true := by simp [hi1]
          have qa1 : (0 : Int) ≤ (i : Int) := by omega
          have qa2 : (i : Int) < (la.length : Int) := by omega
          obtain ⟨bb, rfl, b0, -⟩ := (hB.on hb).at hk1
          have gb : decide ((k : Int) < (lb.length : Int)) = true := by simp [hk1]
          have qb1 : (0 : Int) ≤ (k : Int) := by omega
          have qb2 : (k : Int) < (lb.length : Int) := by omega
          have ge : ((k : Int) == (lb.length : Int)) = false := by simp; omega
          have ge2 : decide ((k : Int) = (lb.length : Int)) = false := by simp; omega
          have ge3 : (k == lb.length) = false := by simp; omega
          have hx : nx (la.drop i) (lb.drop k) = some lb[k].1 := by rw [drop_at hi1, drop_at hk1]; simp only [nx, Option.some.injEq]; omega
          have gl : decide (la[i].1 < lb[k].1) = false := decide_eq_false (by omega)
          have e1 : (la[i].1 == lb[k].1) = false := by simp; omega
          have e2 : decide (la[i].1 = lb[k].1) = false := by simp; omega
          obtain ⟨n, rfl⟩ : ∃ n', n = n' + 1 := ⟨n - 1, by simp at hn; omega⟩
          rw [pls_step hx (A := la.drop i) (B := lb.drop (k + 1)) (by rw [ad_drop_no hi1 (by omega)]) (by rw [ad_drop_yes hk1 rfl])] at hT
          have HT : Hid (pls la lb = (done ++ [lb[k].1]) ++ (tg n 0 0 (la.drop i) (lb.drop (k + 1))).map (·.1)) := Lib.hid (by rw [List.append_assoc]; exact hT)
          have HN : Hid ((la.drop i).length + (lb.drop (k + 1)).length ≤ n) := Lib.hid (by simp at hn ⊢; omega)
          clear hT hx hn hc
          generalize la[i].1 = s at *
          generalize lb[k].1 = t at *
          have HI := Lib.hid (And.intro hil hkl)
          go_wp2_with fail
          go_quiet (fail)
          have hb' := below_drewN hb nq
          have ho' : OwnI w.heap.size (wr.drewN nq) _ done := ho
          have a0' : (wr.drewN nq).cell? (aa.add (i * 2)) = some (.int .i64 s) := a0
          have b0' : (wr.drewN nq).cell? (bb.add (k * 2)) = some (.int .i64 t) := b0
          clear ho hb a0 b0
          generalize wr.drewN nq = V at *
          have HNw := Has.new_ V 3 #[.int .i64 t]
          have hcl : ∀ (j : Nat) (u : Value), [Value.int .i64 t][j]? = some u → (V.alloc (.cells #[.int .i64 t] 3)).cell? ((⟨V.heap.size, 0, none⟩ : Addr).add j) = some u := fun j u h => by
            rw [Addr.add_lit, Nat.zero_add, HNw.read j]
            simpa using h
          have ho1 := ho'.on (al1 V (.cells #[.int .i64 t] 3))
          have hbk := World.ownsRow.lt ho'
          have BN := al hb' (.cells #[.int .i64 t] 3)
          clear HNw ho'
          go_wp2_with (at_builtin; refine wpList_append_own_at _ rfl _ _ 53 rfl w.heap.size 3 i0 _ 1 8 Try.underlying53 hi hz0 hz1 hz2 rfl (by decide) _ _ _ rfl ho1 ⟨V.heap.size, 0, none⟩ 1 1 [.int .i64 t] rfl rfl hcl (by simp [Value.oneCell']) (by unfold maxLen; omega) (by omega) (by have := hb'.size; simp; omega) ?_; intro v' w5 hown' hgrow _ _; have B5 := BN.grown hgrow BN.size (fun k e => (hbk _ e).1))
          exact ⟨⟨i, (k + 1), n, done ++ [t], rfl, rfl, by omega, by omega, HN.out, by simp; omega, HT.out, by unfold OwnI; rw [List.length_append, zs_app]; exact hown', B5⟩, by simp [intOf]; omega⟩
      · obtain ⟨aa, rfl, a0, -⟩ := (hA.on hb).at hi1
        have ga : decide ((i : Int) < (la.length : Int)) = true := by simp [hi1]
        have qa1 : (0 : Int) ≤ (i : Int) := by omega
        have qa2 : (i : Int) < (la.length : Int) := by omega
        have gb : decide ((k : Int) < (lb.length : Int)) = false := by simp; omega
        have ek : k = lb.length := by omega
        have ge : ((k : Int) == (lb.length : Int)) = true := by simp [ek]
        have ge2 : decide ((k : Int) = (lb.length : Int)) = true := by simp [ek]
        have ge3 : (k == lb.length) = true := by simp [ek]
        clear ek
        have hx : nx (la.drop i) (lb.drop k) = some la[i].1 := by rw [drop_at hi1, drop_no hk1]; rfl
        obtain ⟨n, rfl⟩ : ∃ n', n = n' + 1 := ⟨n - 1, by simp at hn; omega⟩
        rw [pls_step hx (A := la.drop (i + 1)) (B := lb.drop k) (by rw [ad_drop_yes hi1 rfl]) (by rw [ad_drop_end hk1])] at hT
        have HT : Hid (pls la lb = (done ++ [la[i].1]) ++ (tg n 0 0 (la.drop (i + 1)) (lb.drop k)).map (·.1)) := Lib.hid (by rw [List.append_assoc]; exact hT)
        have HN : Hid ((la.drop (i + 1)).length + (lb.drop k).length ≤ n) := Lib.hid (by simp at hn ⊢; omega)
        clear hT hx hn
        generalize la[i].1 = s at *
        have HI := Lib.hid (And.intro hil hkl)
        go_wp2_with fail
        go_quiet (fail)
        have hb' := below_drewN hb nq
        have ho' : OwnI w.heap.size (wr.drewN nq) _ done := ho
        have a0' : (wr.drewN nq).cell? (aa.add (i * 2)) = some (.int .i64 s) := a0
        clear ho hb a0
        generalize wr.drewN nq = V at *
        have HNw := Has.new_ V 3 #[.int .i64 s]
        have hcl : ∀ (j : Nat) (u : Value), [Value.int .i64 s][j]? = some u → (V.alloc (.cells #[.int .i64 s] 3)).cell? ((⟨V.heap.size, 0, none⟩ : Addr).add j) = some u := fun j u h => by
          rw [Addr.add_lit, Nat.zero_add, HNw.read j]
          simpa using h
        have ho1 := ho'.on (al1 V (.cells #[.int .i64 s] 3))
        have hbk := World.ownsRow.lt ho'
        have BN := al hb' (.cells #[.int .i64 s] 3)
        clear HNw ho'
        go_wp2_with (at_builtin; refine wpList_append_own_at _ rfl _ _ 53 rfl w.heap.size 3 i0 _ 1 8 Try.underlying53 hi hz0 hz1 hz2 rfl (by decide) _ _ _ rfl ho1 ⟨V.heap.size, 0, none⟩ 1 1 [.int .i64 s] rfl rfl hcl (by simp [Value.oneCell']) (by unfold maxLen; omega) (by omega) (by have := hb'.size; simp; omega) ?_; intro v' w5 hown' hgrow _ _; have B5 := BN.grown hgrow BN.size (fun k e => (hbk _ e).1))
        exact ⟨⟨(i + 1), k, n, done ++ [s], rfl, rfl, by omega, by omega, HN.out, by simp; omega, HT.out, by unfold OwnI; rw [List.length_append, zs_app]; exact hown', B5⟩, by simp [intOf]; omega⟩
    · by_cases hk1 : k < lb.length
      · have ga : decide ((i : Int) < (la.length : Int)) = false := by simp; omega
        obtain ⟨bb, rfl, b0, -⟩ := (hB.on hb).at hk1
        have gb : decide ((k : Int) < (lb.length : Int)) = true := by simp [hk1]
        have qb1 : (0 : Int) ≤ (k : Int) := by omega
        have qb2 : (k : Int) < (lb.length : Int) := by omega
        have ge : ((k : Int) == (lb.length : Int)) = false := by simp; omega
        have ge2 : decide ((k : Int) = (lb.length : Int)) = false := by simp; omega
        have ge3 : (k == lb.length) = false := by simp; omega
        have hx : nx (la.drop i) (lb.drop k) = some lb[k].1 := by rw [drop_no hi1, drop_at hk1]; rfl
        obtain ⟨n, rfl⟩ : ∃ n', n = n' + 1 := ⟨n - 1, by simp at hn; omega⟩
        rw [pls_step hx (A := la.drop i) (B := lb.drop (k + 1)) (by rw [ad_drop_end hi1]) (by rw [ad_drop_yes hk1 rfl])] at hT
        have HT : Hid (pls la lb = (done ++ [lb[k].1]) ++ (tg n 0 0 (la.drop i) (lb.drop (k + 1))).map (·.1)) := Lib.hid (by rw [List.append_assoc]; exact hT)
        have HN : Hid ((la.drop i).length + (lb.drop (k + 1)).length ≤ n) := Lib.hid (by simp at hn ⊢; omega)
        clear hT hx hn
        generalize lb[k].1 = t at *
        have HI := Lib.hid (And.intro hil hkl)
        go_wp2_with fail
        go_quiet (fail)
        have hb' := below_drewN hb nq
        have ho' : OwnI w.heap.size (wr.drewN nq) _ done := ho
        have b0' : (wr.drewN nq).cell? (bb.add (k * 2)) = some (.int .i64 t) := b0
        clear ho hb b0
        generalize wr.drewN nq = V at *
        have HNw := Has.new_ V 3 #[.int .i64 t]
        have hcl : ∀ (j : Nat) (u : Value), [Value.int .i64 t][j]? = some u → (V.alloc (.cells #[.int .i64 t] 3)).cell? ((⟨V.heap.size, 0, none⟩ : Addr).add j) = some u := fun j u h => by
          rw [Addr.add_lit, Nat.zero_add, HNw.read j]
          simpa using h
        have ho1 := ho'.on (al1 V (.cells #[.int .i64 t] 3))
        have hbk := World.ownsRow.lt ho'
        have BN := al hb' (.cells #[.int .i64 t] 3)
        clear HNw ho'
        go_wp2_with (at_builtin; refine wpList_append_own_at _ rfl _ _ 53 rfl w.heap.size 3 i0 _ 1 8 Try.underlying53 hi hz0 hz1 hz2 rfl (by decide) _ _ _ rfl ho1 ⟨V.heap.size, 0, none⟩ 1 1 [.int .i64 t] rfl rfl hcl (by simp [Value.oneCell']) (by unfold maxLen; omega) (by omega) (by have := hb'.size; simp; omega) ?_; intro v' w5 hown' hgrow _ _; have B5 := BN.grown hgrow BN.size (fun k e => (hbk _ e).1))
        exact ⟨⟨i, (k + 1), n, done ++ [t], rfl, rfl, by omega, by omega, HN.out, by simp; omega, HT.out, by unfold OwnI; rw [List.length_append, zs_app]; exact hown', B5⟩, by simp [intOf]; omega⟩
      · have ga : decide ((i : Int) < (la.length : Int)) = false := by simp; omega
        have gb : decide ((k : Int) < (lb.length : Int)) = false := by simp; omega
        have hx : nx (la.drop i) (lb.drop k) = none := by rw [drop_no hi1, drop_no hk1]; rfl
        rw [tg_none hx, List.map_nil, List.append_nil] at hT
        have HT := Lib.hid hT
        clear hT hx
        go_wp2
        go_ret
        exact ⟨_, rfl, by rw [HT.out]; exact ho, hb⟩
end Go.Proofs.Ytbohcedclnbcdaa
