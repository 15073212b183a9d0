/- The reference's Sums. -/
import Derived.Test.YtepcokgpepcccaaDoorOr0
import Derived.Test.YtepcokgpepcccaaDoorCl0
import Derived.Deep.RegionLaw
import Derived.Test.YtepcokgpepcccaaDoorLawP
namespace Go.Proofs.YtepcokgpepcccaaDoor
open Go.ChangeShapes Go.WideShapes Go.ChangeAt Go.RowKit
set_option linter.unusedVariables false
set_option linter.unusedSimpArgs false

def ins (L : List Int) (i : Nat) (n : Int) : List Int := L.take i ++ [n] ++ L.drop i
theorem ins_mem (L : List Int) (i : Nat) (n x : Int) : x ∈ ins L i n ↔ x ∈ L ∨ x = n := by
  unfold ins
  rw [List.mem_append, List.mem_append, List.mem_singleton]
  constructor
  · rintro ((h | h) | h)
    · exact .inl (List.mem_of_mem_take h)
    · exact .inr h
    · exact .inl (List.mem_of_mem_drop h)
  · rintro (h | h)
    · rw [← List.take_append_drop i L, List.mem_append] at h
      rcases h with h | h
      · exact .inl (.inl h)
      · exact .inr h
    · exact .inl (.inr h)
theorem ins_asc {L : List Int} {i : Nat} {n : Int} (h : Asc L) (h1 : ∀ j (hj : j < L.length), j < i → L[j] < n) (h2 : ∀ (hi : i < L.length), n < L[i]) : Asc (ins L i n) := by
  have hp := List.pairwise_iff_getElem.1 h
  unfold ins
  rw [List.append_assoc]
  refine List.pairwise_append.2 ⟨h.sublist (List.take_sublist _ _), List.pairwise_append.2 ⟨by simp, h.sublist (List.drop_sublist _ _), ?_⟩, ?_⟩
  · intro a ha b hb
    rw [List.mem_singleton] at ha
    subst ha
    obtain ⟨j, hj, rfl⟩ := List.mem_iff_getElem.1 hb
    rw [List.length_drop] at hj
    rw [List.getElem_drop]
    have h3 := h2 (by omega)
    by_cases e : j = 0
    · subst e; exact h3
    · have := hp i (i + j) (by omega) (by omega) (by omega)
      omega
  · intro a ha b hb
    obtain ⟨j, hj, rfl⟩ := List.mem_iff_getElem.1 ha
    rw [List.length_take] at hj
    rw [List.getElem_take]
    have h3 := h1 j (by omega) (by omega)
    rcases List.mem_append.1 hb with k | k
    · rw [List.mem_singleton] at k; subst k; exact h3
    · obtain ⟨m, hm, rfl⟩ := List.mem_iff_getElem.1 k
      rw [List.length_drop] at hm
      rw [List.getElem_drop]
      exact hp j (i + m) (by omega) (by omega) (by omega)
theorem ins_len (L : List Int) (i : Nat) (n : Int) (h : i ≤ L.length) : (ins L i n).length = L.length + 1 := by
  simp [ins]; omega
/-- What the reference has gathered when the sets below k are seen. -/
structure Gat (zs L : List Int) (k : Nat) : Prop where
  asc : Asc L
  mem : ∀ x, x ∈ L ↔ ∃ s, s < k ∧ SF zs s = x
  len : L.length ≤ k
theorem Gat.start (zs : List Int) : Gat zs [] 0 := ⟨by simp [Asc], fun x => by simp, Nat.le_refl _⟩
theorem Gat.old {zs L : List Int} {k i : Nat} (h : Gat zs L k) (hi : i < L.length) (e : L[i] = SF zs k) : Gat zs L (k + 1) := by
  refine ⟨h.asc, fun x => ?_, by have := h.len; omega⟩
  rw [h.mem]
  constructor
  · rintro ⟨s, h1, h2⟩; exact ⟨s, by omega, h2⟩
  · rintro ⟨s, h1, h2⟩
    by_cases e2 : s = k
    · subst e2
      rw [← h2, ← e]
      exact (h.mem _).1 (List.getElem_mem hi)
    · exact ⟨s, by omega, h2⟩
theorem Gat.add {zs L : List Int} {k i : Nat} (h : Gat zs L k) (hi : i ≤ L.length) (h1 : ∀ j (hj : j < L.length), j < i → L[j] < SF zs k) (h2 : ∀ (hi : i < L.length), SF zs k < L[i]) : Gat zs (ins L i (SF zs k)) (k + 1) := by
  refine ⟨ins_asc h.asc h1 h2, fun x => ?_, by rw [ins_len L i _ hi]; have := h.len; omega⟩
  rw [ins_mem, h.mem]
  constructor
  · rintro (⟨s, h1, h2⟩ | rfl)
    · exact ⟨s, by omega, h2⟩
    · exact ⟨k, by omega, rfl⟩
  · rintro ⟨s, a1, a2⟩
    by_cases e2 : s = k
    · exact .inr (by rw [← a2, e2])
    · exact .inl ⟨s, by omega, a2⟩
theorem Gat.done {zs L : List Int} (h : Gat zs L (2 ^ zs.length)) : L = smz zs := asc_eq h.asc (smz_asc zs).1 fun x => by rw [h.mem, smz_mem]
theorem step_append_rd {ops : Array Oper} {o : Oper} {a : Act} {K : Act → World → Prop} {Q : Exit → Act → World → Prop} {E : Prop} {w : World} {th ys : List Int} (B : Nat) (v v8 : Value) (hgd : o.guard = none) (s y : Operand)
    (ho : o.op = .call { callee := .builtin .append, args := #[s, y], argTypes := #[22, 22] }) (hs : a.eval s = v) (hy : a.eval y = v8) (h : OwnZ B w v th) (h8 : Rdz w v8 ys) (hB : B ≤ w.heap.size) (hl : th.length + ys.length ≤ 100000)
    (hK : ∀ v' w', OwnZ B w' v' (th ++ ys) → w.grownBy w' v.ownBlock → K (a.put o.dst v') w') : if Region.wanted o (yielded ops a.tmps) = true then Oper.wp Tryd.prog o a w K Q else E := by
  have hw : Region.wanted o (yielded ops a.tmps) = true := by simp [Region.wanted, hgd]
  rw [if_pos hw]
  obtain ⟨v', w', hrun, r1, r2, r3⟩ := run_append_rd (w := w) o.type h h8 hB hl
  unfold Oper.wp
  simp [execOp, ho, resolve, invoke, builtin, hs, hy, hrun, Result.andThen]
  exact hK v' w' r1 r2
theorem gbelow {B : Nat} {a w w' : World} {row : Option Nat} (h : Below B a w) (hg : w.grownBy w' row) (hr : ∀ j, row = some j → B ≤ j) (hs : B ≤ w.heap.size) : Below B a w' := h.grown hg hs hr
theorem hasA (W : World) (o : Obj) (t : TypeId) (cs : Array Value) : Has ((W.alloc o).alloc (.cells cs t)) (W.heap.size + 1) t cs := by
  have := Has.new_ (W.alloc o) t cs
  rwa [show (W.alloc o).heap.size = W.heap.size + 1 by simp] at this
theorem eA (W : World) (o : Obj) : OwnZ W.heap.size ((W.alloc o).alloc (.cells #[] 3)).drew (.slice (some ⟨W.heap.size + 1, 0, none⟩) 0 0) [] :=
  own_empty _ _ _ (Nat.le_succ _) (hasA W o 3 #[])
theorem eB (W : World) (o : Obj) : OwnZ W.heap.size ((W.alloc (.cells #[] 3)).alloc o).drew (.slice (some ⟨W.heap.size, 0, none⟩) 0 0) [] :=
  own_empty _ _ _ (Nat.le_refl _) (Has.drew_ ((Has.new_ W 3 #[]).on (al1 _ o)))
theorem eC (W : World) : OwnZ W.heap.size (W.alloc (.cells #[] 3)).drew (.slice (some ⟨W.heap.size, 0, none⟩) 0 0) [] :=
  own_empty _ _ _ (Nat.le_refl _) (Has.drew_ (Has.new_ W 3 #[]))
theorem bA (W : World) (o o' : Obj) : Below W.heap.size W ((W.alloc o).alloc o').drew := Below.drew (al (al1 W o) o')
theorem bC (W : World) (o : Obj) : Below W.heap.size W (W.alloc o).drew := Below.drew (al1 W o)
theorem lit1 (w : World) (x : Int) : Rdz (w.alloc (.cells #[.int .i64 x] 3)) (.slice (some ⟨w.heap.size, 0, none⟩) 1 1) [x] := lit_rd w [x] 3
theorem rd_has {w : World} {g : Nat} {x : Int} (h : Has w g 3 #[.int .i64 x]) : Rdz w (.slice (some ⟨g, 0, none⟩) 1 1) [x] :=
  ⟨_, _, rfl, fun j hj => ⟨_, rfl, by
    have : j = 0 := by simpa using hj
    subst this
    rw [Addr.add_lit, Nat.zero_add, h.read 0]; rfl⟩⟩
theorem nA {W w1 : World} {x : Int} {o : Obj} (g : ((W.alloc (.cells #[.int .i64 x] 3)).alloc o).drew.grownBy w1 (some (W.heap.size + 1))) : Rdz w1 (.slice (some ⟨W.heap.size, 0, none⟩) 1 1) [x] :=
  rd_has (Has.grown_ (Has.drew_ ((Has.new_ W 3 #[.int .i64 x]).on (al1 _ o))) g (by simp))
theorem nB {W w1 : World} {x : Int} {o : Obj} (g : ((W.alloc o).alloc (.cells #[.int .i64 x] 3)).drew.grownBy w1 (some W.heap.size)) : Rdz w1 (.slice (some ⟨W.heap.size + 1, 0, none⟩) 1 1) [x] :=
  rd_has (Has.grown_ (Has.drew_ (hasA W o 3 #[.int .i64 x])) g (by simp))
theorem rd_take {B g n c i : Nat} {w : World} {L : List Int} (h : OwnZ B w (.slice (some ⟨g, 0, none⟩) n c) L) (hn : L.length = n) (hi : i ≤ n) : Rdz w (.slice (some ⟨g, 0, none⟩) i c) (L.take i) := by
  subst hn
  refine ⟨_, c, by rw [List.length_take, Nat.min_eq_left hi], fun j hj => ⟨_, rfl, ?_⟩⟩
  rw [List.length_take] at hj
  rw [Addr.add_lit, Nat.zero_add, h.at_ (by omega), List.getElem_take]
theorem rd_drop {B g n c i : Nat} {w : World} {L : List Int} (h : OwnZ B w (.slice (some ⟨g, 0, none⟩) n c) L) (hn : L.length = n) (hi : i ≤ n) (hc : n ≤ c) : Rdz w (.slice (if c = i then some ⟨g, 0, none⟩ else some ⟨g, i, none⟩) (n - i) (c - i)) (L.drop i) := by
  subst hn
  refine ⟨_, _, by rw [List.length_drop], fun j hj => ?_⟩
  rw [List.length_drop] at hj
  rw [if_neg (by omega)]
  refine ⟨_, rfl, ?_⟩
  rw [Addr.add_lit, h.at_ (by omega), List.getElem_drop]
set_option maxRecDepth 100000 in
set_option maxHeartbeats 8000000 in
theorem rsums_any (u : Value) (zs : List Int) (w : World) (hR : Rdz w u zs) (hl : zs.length ≤ 8) (hz : allZ zs = true) :
    Calls Tryd.prog 15 #[u] w fun e w' => ∃ v, e = .returned v ∧ OwnZ w.heap.size w' v (smz zs) ∧ Below w.heap.size w w' := by
  have hN2 : 2 ^ zs.length ≤ 256 := Nat.pow_le_pow_right (n := 2) (by omega) hl
  have hcast : (2 : Int) ^ zs.length = ((2 ^ zs.length : Nat) : Int) := by simp
  have hRS := fun s w h hs => rsum_any u zs s w h (by omega) hz hs
  have hSF : ∀ s, sm zs s zs.length = SF zs s := fun s => rfl
  have HSF := Lib.hid hSF
  obtain ⟨N, hN⟩ : ∃ N, 2 ^ zs.length = N := ⟨_, rfl⟩
  have W0 : wrap64 ((2 : Int) ^ zs.length) = (N : Int) := by rw [hcast, hN]; unfold wrap64; rw [hN] at hN2; omega
  rw [hN] at hN2
  have HN := Lib.hid hN
  obtain ⟨q, c, rfl, hq⟩ := hR
  have HR : Hid (Rdz w (.slice q zs.length c) zs) := Lib.hid ⟨q, c, rfl, hq⟩
  clear hq hN hcast hSF
  go_enter Tryd.func15, Tryd.ntmps15
  go_wp2
  go_loopw [3, 4] (fun v3 v wr => ∃ (k m cp : Nat) (p : Option Addr) (L : List Int), v = .int .i64 k ∧ k ≤ N ∧ v3 = .slice p m cp ∧ L.length = m ∧ Hid (OwnZ w.heap.size wr (.slice p m cp) L) ∧ Hid (Gat zs L k) ∧ Below w.heap.size w wr) (fun _ v _ => N - (intOf v).toNat)
  case atStart => exact ⟨0, 0, 0, none, [], rfl, Nat.zero_le _, rfl, rfl, Lib.hid (World.ownsRow_nil _ _ _ _), Lib.hid (Gat.start zs), Below.refl _ _⟩
  case round =>
    obtain ⟨k, m, cp, p, L, rfl, hk, rfl, hm, hO, hGa, hB⟩ := hrel
    by_cases hlt : k < N
    · have g : decide ((k : Int) < (N : Int)) = true := by simp [hlt]
      have W1 : IntKind.i64.wrap ((k : Int) + 1) = ((k + 1 : Nat) : Int) := by rw [IntWalk.i64_in _ (by omega)]; omega
      have hS := fun w h => hRS k w h (by omega)
      have hmk : m ≤ 256 := by have := hGa.out.len; omega
      obtain ⟨x, hx⟩ : ∃ x, x = SF zs k := ⟨_, rfl⟩
      have HX := Lib.hid hx
      have hS : ∀ w, Rdz w (.slice q zs.length c) zs → Calls Tryd.prog 48 #[.slice q zs.length c, .int .i64 (k : Int)] w fun e w' => e = .returned (.int .i64 x) ∧ w' = w := fun w h => by rw [hx]; exact hS w h
      have HR1 := Lib.hid (HR.out.on hB)
      have HM := Lib.hid hm
      clear hx hm
      go_upto_region 7 with (go_at_call 48; (with_reducible refine (hS _ HR1.out).mono ?_); rintro e1 w1 ⟨rfl, hw⟩; subst w1)
      go_wp2
      go_loopw [6] (fun v wq => ∃ i : Nat, v = .int .i64 i ∧ i ≤ m ∧ Hid (∀ j (hj : j < L.length), j < i → L[j] < x) ∧ wr = wq) (fun v _ => m - (intOf v).toNat)
      case atStart => exact ⟨0, rfl, Nat.zero_le _, Lib.hid fun j _ h => absurd h (Nat.not_lt_zero j), rfl⟩
      case round =>
        obtain ⟨i, rfl, hi, hI, hw⟩ := hrel
        subst hw
        by_cases him : i < m
        · have gi : decide ((i : Int) < (m : Int)) = true := by simp [him]
          have hiL : i < L.length := by rw [HM.out]; exact him
          have hne : L ≠ [] := fun e => by rw [e] at hiL; simp at hiL
          obtain ⟨g0, cap, e3, hmc⟩ := hO.out.form hne
          rw [HM.out] at e3 hmc
          simp only [Value.slice.injEq] at e3
          obtain ⟨rfl, -, rfl⟩ := e3
          have o5 := hO.out
          rw [show m = L.length from HM.out.symm] at o5
          have cc := o5.at_ hiL
          have gtt := fun (h : ¬ L[i] < x) (j : Nat) => h
          obtain ⟨y, hy⟩ : ∃ y, y = L[i] := ⟨_, rfl⟩
          rw [← hy] at cc
          have HY := Lib.hid hy
          have W2 : IntKind.i64.wrap ((i : Int) + 1) = ((i + 1 : Nat) : Int) := by rw [IntWalk.i64_in _ (by omega)]; omega
          have q1 : (0 : Int) ≤ (i : Int) := by omega
          have q2 : (i : Int) < (m : Int) := by omega
          have gim : ((i : Int) == (m : Int)) = false := by simp; omega
          clear hy gtt o5
          by_cases hyx : y < x
          · have gy : decide (y < x) = true := by simp [hyx]
            have I2 : Hid (∀ j (hj : j < L.length), j < i + 1 → L[j] < x) := Lib.hid fun j hj h => by
              by_cases e : j = i
              · subst e; rw [← HY.out]; exact hyx
              · exact hI.out j hj (by omega)
            clear hyx HY
            go_wp2
            exact ⟨⟨i + 1, rfl, him, I2, trivial⟩, by simp [intOf]; omega⟩
          · have gy : decide (y < x) = false := by simp; omega
            by_cases hyy : y = x
            · have gx : (y != x) = false := by simp [hyy]
              have G2 := Lib.hid (hGa.out.old hiL (by rw [← HY.out, hyy, HX.out]))
              clear hyy hyx HY
              go_wp2
              exact ⟨⟨k + 1, m, cp, some ⟨g0, 0, none⟩, L, rfl, hlt, rfl, HM.out, hO, G2, hB⟩, by simp [intOf]; omega⟩
            · have gx : (y != x) = true := by simp [hyy]
              have G2 := Lib.hid (hGa.out.add (i := i) (by omega) (fun j hj h => by rw [← HX.out]; exact hI.out j hj h) (fun _ => by rw [← HX.out]; have := HY.out; omega))
              clear hyy hyx HY
              go_upto_region 10 with fail
              obtain ⟨W, hW⟩ : ∃ W, wr = W := ⟨_, rfl⟩
              subst hW
              have R1 := rd_take hO.out HM.out (Nat.le_of_lt him)
              have R2 := rd_drop hO.out HM.out (Nat.le_of_lt him) hmc
              have lL : L.length ≤ 256 := by rw [HM.out]; exact hmk
              have l1 : (L.take i).length ≤ 256 := by rw [List.length_take]; omega
              have l2 : (L.drop i).length ≤ 256 := by rw [List.length_drop]; omega
              have e1 : ([] : List Int).length + (L.take i).length ≤ 100000 := by rw [List.length_nil]; omega
              have e2 : (([] : List Int) ++ L.take i).length + [x].length ≤ 100000 := by rw [List.length_append, List.length_nil]; simp only [List.length_cons, List.length_nil]; omega
              have e3 : (([] : List Int) ++ L.take i ++ [x]).length + (L.drop i).length ≤ 100000 := by rw [List.length_append, List.length_append, List.length_nil]; simp only [List.length_cons, List.length_nil]; omega
              have E1 := Lib.hid e1
              have E2 := Lib.hid e2
              have E3 := Lib.hid e3
              clear e1 e2 e3
              have HR1' := Lib.hid R1
              have HR2' := Lib.hid R2
              have s1 : (0 : Int) ≤ (i : Int) := by omega
              have s2 : (i : Int) ≤ (m : Int) := by omega
              have s3 : (i : Int) ≤ (cp : Int) := by omega
              have s4 : (m : Int) ≤ (cp : Int) := by omega
              clear R1 R2
              go_region_law (first
                | (refine step_append_rd (th := []) (ys := L.take i) wr.heap.size (.slice (some ⟨wr.heap.size + 1, 0, none⟩) 0 0) (.slice (some ⟨g0, 0, none⟩) i cp) rfl (.tmp 44) (.tmp 47) rfl (by simp [Act.eval, Act.put]) (by simp [Act.eval, Act.put]) (eA wr _) (HR1'.out.on (bA wr _ _)) (bA wr _ _).size E1.out ?_; intro v1 w1 o1 g1; have n1 := nA g1; have b1 : Below wr.heap.size wr w1 := gbelow (bA wr _ _) g1 (fun j hj => by simp [Value.ownBlock] at hj; omega) (bA wr _ _).size)
                | (refine step_append_rd (th := []) (ys := L.take i) wr.heap.size (.slice (some ⟨wr.heap.size, 0, none⟩) 0 0) (.slice (some ⟨g0, 0, none⟩) i cp) rfl (.tmp 44) (.tmp 47) rfl (by simp [Act.eval, Act.put]) (by simp [Act.eval, Act.put]) (eB wr _) (HR1'.out.on (bA wr _ _)) (bA wr _ _).size E1.out ?_; intro v1 w1 o1 g1; have n1 := nB g1; have b1 : Below wr.heap.size wr w1 := gbelow (bA wr _ _) g1 (fun j hj => by simp [Value.ownBlock] at hj; omega) (bA wr _ _).size)
                | (refine step_append_rd (th := []) (ys := L.take i) wr.heap.size (.slice (some ⟨wr.heap.size, 0, none⟩) 0 0) (.slice (some ⟨g0, 0, none⟩) i cp) rfl (.tmp 44) (.tmp 47) rfl (by simp [Act.eval, Act.put]) (by simp [Act.eval, Act.put]) (eC wr) (HR1'.out.on (bC wr _)) (bC wr _).size E1.out ?_; intro v1 w1 o1 g1; have b1 : Below wr.heap.size wr w1 := gbelow (bC wr _) g1 (fun j hj => by simp [Value.ownBlock] at hj; omega) (bC wr _).size)
                | (refine step_append_rd (th := [] ++ L.take i) (ys := [x]) wr.heap.size v1 (.slice (some ⟨wr.heap.size, 0, none⟩) 1 1) rfl (.tmp 48) (.tmp 50) rfl (by simp [Act.eval, Act.put]) (by simp [Act.eval, Act.put]) o1 n1 b1.size E2.out ?_; intro v2 w2 o2 g2; have b2 : Below wr.heap.size wr w2 := gbelow b1 g2 (fun j hj => (World.ownsRow.lt o1 j hj).1) b1.size)
                | (refine step_append_rd (th := [] ++ L.take i) (ys := [x]) wr.heap.size v1 (.slice (some ⟨wr.heap.size + 1, 0, none⟩) 1 1) rfl (.tmp 48) (.tmp 50) rfl (by simp [Act.eval, Act.put]) (by simp [Act.eval, Act.put]) o1 n1 b1.size E2.out ?_; intro v2 w2 o2 g2; have b2 : Below wr.heap.size wr w2 := gbelow b1 g2 (fun j hj => (World.ownsRow.lt o1 j hj).1) b1.size)
                | (refine step_append_rd (th := [] ++ L.take i) (ys := [x]) wr.heap.size v1 (.slice (some ⟨w1.heap.size, 0, none⟩) 1 1) rfl (.tmp 48) (.tmp 50) rfl (by simp [Act.eval, Act.put]) (by simp [Act.eval, Act.put]) (o1.on (al1 w1 _)) (lit1 w1 x) (b1.trans ((al1 w1 _).mono b1.size)).size E2.out ?_; intro v2 w2 o2 g2; have b2 : Below wr.heap.size wr w2 := gbelow (b1.trans ((al1 w1 _).mono b1.size)) g2 (fun j hj => (World.ownsRow.lt o1 j hj).1) (b1.trans ((al1 w1 _).mono b1.size)).size)
                | (refine step_append_rd (th := [] ++ L.take i ++ [x]) (ys := L.drop i) wr.heap.size v2 (.slice (if cp = i then some ⟨g0, 0, none⟩ else some ⟨g0, i, none⟩) (m - i) (cp - i)) rfl (.tmp 51) (.tmp 54) rfl (by simp [Act.eval, Act.put]) (by simp [Act.eval, Act.put]) o2 (HR2'.out.on b2) b2.size E3.out ?_; intro v3 w3 o3 g3; have b3 : Below wr.heap.size wr w3 := gbelow b2 g3 (fun j hj => (World.ownsRow.lt o2 j hj).1) b2.size; have o3 : OwnZ wr.heap.size w3 v3 (ins L i x) := o3))
              all_goals (
                obtain ⟨q3, c3, e3, -⟩ := o3.cell
                subst e3
                have o4 : OwnZ w.heap.size w3 (.slice q3 (ins L i x).length c3) (ins L i x) := o3.mono hB.size
                have O4 := Lib.hid o4
                have B4 := belows hB b3
                have G3 : Hid (Gat zs (ins L i x) (k + 1)) := Lib.hid (by rw [HX.out]; exact G2.out)
                clear o3 o4 o2 o1 g1 g2 g3 b1 b2 b3 E1 E2 E3 HR1' HR2' G2 hO hGa hB
                go_wp2
                exact ⟨⟨k + 1, _, c3, q3, ins L i x, rfl, hlt, rfl, rfl, O4, G3, B4⟩, by simp [intOf]; omega⟩)
        · have gi : decide ((i : Int) < (m : Int)) = false := by simp; omega
          have gim : ((i : Int) == (m : Int)) = true := by simp; omega
          have G2 := Lib.hid (hGa.out.add (i := i) (by rw [HM.out]; exact hi) (fun j hj h => by rw [← HX.out]; exact hI.out j hj h) (fun h => absurd h (by rw [HM.out]; exact him)))
          have hO2 := hO.out
          obtain ⟨hn, ⟨e3, e4⟩ | ⟨g0, cap, cur, e3, hBg, hgg, hmc, -⟩⟩ := hO2
          · have eL : L = [] := List.length_eq_zero_iff.1 e4
            simp only [Value.slice.injEq] at e3
            obtain ⟨rfl, rfl, rfl⟩ := e3
            have hi0 : i = 0 := by omega
            subst hi0
            have HEL := Lib.hid eL
            clear e4 hn eL
            go_upto_region 10 with fail
            have eL := HEL.out
            obtain ⟨W, hW⟩ : ∃ W, wr = W := ⟨_, rfl⟩
            subst hW
            have R1 : Rdz wr (.slice none 0 0) (L.take 0) := by rw [eL]; exact Rdz.nil _ _
            have R2 : Rdz wr (.slice none 0 0) (L.drop 0) := by rw [eL]; exact Rdz.nil _ _
            have lL : L.length ≤ 256 := by rw [HM.out]; exact hmk
            have l1 : (L.take 0).length ≤ 256 := by rw [List.length_take]; omega
            have l2 : (L.drop 0).length ≤ 256 := by rw [List.length_drop]; omega
            have e1 : ([] : List Int).length + (L.take 0).length ≤ 100000 := by rw [List.length_nil]; omega
            have e2 : (([] : List Int) ++ L.take 0).length + [x].length ≤ 100000 := by rw [List.length_append, List.length_nil]; simp only [List.length_cons, List.length_nil]; omega
            have e3 : (([] : List Int) ++ L.take 0 ++ [x]).length + (L.drop 0).length ≤ 100000 := by rw [List.length_append, List.length_append, List.length_nil]; simp only [List.length_cons, List.length_nil]; omega
            have E1 := Lib.hid e1
            have E2 := Lib.hid e2
            have E3 := Lib.hid e3
            clear e1 e2 e3
            have HR1' := Lib.hid R1
            have HR2' := Lib.hid R2
            clear R1 R2 eL
            go_region_law (first
              | (refine step_append_rd (th := []) (ys := L.take 0) wr.heap.size (.slice (some ⟨wr.heap.size + 1, 0, none⟩) 0 0) (.slice none 0 0) rfl (.tmp 44) (.tmp 47) rfl (by simp [Act.eval, Act.put]) (by simp [Act.eval, Act.put]) (eA wr _) (HR1'.out.on (bA wr _ _)) (bA wr _ _).size E1.out ?_; intro v1 w1 o1 g1; have n1 := nA g1; have b1 : Below wr.heap.size wr w1 := gbelow (bA wr _ _) g1 (fun j hj => by simp [Value.ownBlock] at hj; omega) (bA wr _ _).size)
              | (refine step_append_rd (th := []) (ys := L.take 0) wr.heap.size (.slice (some ⟨wr.heap.size, 0, none⟩) 0 0) (.slice none 0 0) rfl (.tmp 44) (.tmp 47) rfl (by simp [Act.eval, Act.put]) (by simp [Act.eval, Act.put]) (eB wr _) (HR1'.out.on (bA wr _ _)) (bA wr _ _).size E1.out ?_; intro v1 w1 o1 g1; have n1 := nB g1; have b1 : Below wr.heap.size wr w1 := gbelow (bA wr _ _) g1 (fun j hj => by simp [Value.ownBlock] at hj; omega) (bA wr _ _).size)
              | (refine step_append_rd (th := []) (ys := L.take 0) wr.heap.size (.slice (some ⟨wr.heap.size, 0, none⟩) 0 0) (.slice none 0 0) rfl (.tmp 44) (.tmp 47) rfl (by simp [Act.eval, Act.put]) (by simp [Act.eval, Act.put]) (eC wr) (HR1'.out.on (bC wr _)) (bC wr _).size E1.out ?_; intro v1 w1 o1 g1; have b1 : Below wr.heap.size wr w1 := gbelow (bC wr _) g1 (fun j hj => by simp [Value.ownBlock] at hj; omega) (bC wr _).size)
              | (refine step_append_rd (th := [] ++ L.take 0) (ys := [x]) wr.heap.size v1 (.slice (some ⟨wr.heap.size, 0, none⟩) 1 1) rfl (.tmp 48) (.tmp 50) rfl (by simp [Act.eval, Act.put]) (by simp [Act.eval, Act.put]) o1 n1 b1.size E2.out ?_; intro v2 w2 o2 g2; have b2 : Below wr.heap.size wr w2 := gbelow b1 g2 (fun j hj => (World.ownsRow.lt o1 j hj).1) b1.size)
              | (refine step_append_rd (th := [] ++ L.take 0) (ys := [x]) wr.heap.size v1 (.slice (some ⟨wr.heap.size + 1, 0, none⟩) 1 1) rfl (.tmp 48) (.tmp 50) rfl (by simp [Act.eval, Act.put]) (by simp [Act.eval, Act.put]) o1 n1 b1.size E2.out ?_; intro v2 w2 o2 g2; have b2 : Below wr.heap.size wr w2 := gbelow b1 g2 (fun j hj => (World.ownsRow.lt o1 j hj).1) b1.size)
              | (refine step_append_rd (th := [] ++ L.take 0) (ys := [x]) wr.heap.size v1 (.slice (some ⟨w1.heap.size, 0, none⟩) 1 1) rfl (.tmp 48) (.tmp 50) rfl (by simp [Act.eval, Act.put]) (by simp [Act.eval, Act.put]) (o1.on (al1 w1 _)) (lit1 w1 x) (b1.trans ((al1 w1 _).mono b1.size)).size E2.out ?_; intro v2 w2 o2 g2; have b2 : Below wr.heap.size wr w2 := gbelow (b1.trans ((al1 w1 _).mono b1.size)) g2 (fun j hj => (World.ownsRow.lt o1 j hj).1) (b1.trans ((al1 w1 _).mono b1.size)).size)
              | (refine step_append_rd (th := [] ++ L.take 0 ++ [x]) (ys := L.drop 0) wr.heap.size v2 (.slice none 0 0) rfl (.tmp 51) (.tmp 54) rfl (by simp [Act.eval, Act.put]) (by simp [Act.eval, Act.put]) o2 (HR2'.out.on b2) b2.size E3.out ?_; intro v3 w3 o3 g3; have b3 : Below wr.heap.size wr w3 := gbelow b2 g3 (fun j hj => (World.ownsRow.lt o2 j hj).1) b2.size; have o3 : OwnZ wr.heap.size w3 v3 (ins L 0 x) := o3))
            all_goals (
              obtain ⟨q3, c3, e3, -⟩ := o3.cell
              subst e3
              have o4 : OwnZ w.heap.size w3 (.slice q3 (ins L 0 x).length c3) (ins L 0 x) := o3.mono hB.size
              have O4 := Lib.hid o4
              have B4 := belows hB b3
              have G3 : Hid (Gat zs (ins L 0 x) (k + 1)) := Lib.hid (by rw [HX.out]; exact G2.out)
              clear o3 o4 o2 o1 g1 g2 g3 b1 b2 b3 E1 E2 E3 HR1' HR2' G2 hO hGa hB
              go_wp2
              exact ⟨⟨k + 1, _, c3, q3, ins L 0 x, rfl, hlt, rfl, rfl, O4, G3, B4⟩, by simp [intOf]; omega⟩)
          · rw [HM.out] at hmc
            simp only [Value.slice.injEq] at e3
            obtain ⟨rfl, -, rfl⟩ := e3
            clear hn hgg hBg
            go_upto_region 10 with fail
            obtain ⟨W, hW⟩ : ∃ W, wr = W := ⟨_, rfl⟩
            subst hW
            have R1 := rd_take hO.out HM.out hi
            have R2 := rd_drop hO.out HM.out hi hmc
            have lL : L.length ≤ 256 := by rw [HM.out]; exact hmk
            have l1 : (L.take i).length ≤ 256 := by rw [List.length_take]; omega
            have l2 : (L.drop i).length ≤ 256 := by rw [List.length_drop]; omega
            have e1 : ([] : List Int).length + (L.take i).length ≤ 100000 := by rw [List.length_nil]; omega
            have e2 : (([] : List Int) ++ L.take i).length + [x].length ≤ 100000 := by rw [List.length_append, List.length_nil]; simp only [List.length_cons, List.length_nil]; omega
            have e3 : (([] : List Int) ++ L.take i ++ [x]).length + (L.drop i).length ≤ 100000 := by rw [List.length_append, List.length_append, List.length_nil]; simp only [List.length_cons, List.length_nil]; omega
            have E1 := Lib.hid e1
            have E2 := Lib.hid e2
            have E3 := Lib.hid e3
            clear e1 e2 e3
            have HR1' := Lib.hid R1
            have HR2' := Lib.hid R2
            have s1 : (0 : Int) ≤ (i : Int) := by omega
            have s2 : (i : Int) ≤ (m : Int) := by omega
            have s3 : (i : Int) ≤ (cp : Int) := by omega
            have s4 : (m : Int) ≤ (cp : Int) := by omega
            clear R1 R2
            go_region_law (first
              | (refine step_append_rd (th := []) (ys := L.take i) wr.heap.size (.slice (some ⟨wr.heap.size + 1, 0, none⟩) 0 0) (.slice (some ⟨g0, 0, none⟩) i cp) rfl (.tmp 44) (.tmp 47) rfl (by simp [Act.eval, Act.put]) (by simp [Act.eval, Act.put]) (eA wr _) (HR1'.out.on (bA wr _ _)) (bA wr _ _).size E1.out ?_; intro v1 w1 o1 g1; have n1 := nA g1; have b1 : Below wr.heap.size wr w1 := gbelow (bA wr _ _) g1 (fun j hj => by simp [Value.ownBlock] at hj; omega) (bA wr _ _).size)
              | (refine step_append_rd (th := []) (ys := L.take i) wr.heap.size (.slice (some ⟨wr.heap.size, 0, none⟩) 0 0) (.slice (some ⟨g0, 0, none⟩) i cp) rfl (.tmp 44) (.tmp 47) rfl (by simp [Act.eval, Act.put]) (by simp [Act.eval, Act.put]) (eB wr _) (HR1'.out.on (bA wr _ _)) (bA wr _ _).size E1.out ?_; intro v1 w1 o1 g1; have n1 := nB g1; have b1 : Below wr.heap.size wr w1 := gbelow (bA wr _ _) g1 (fun j hj => by simp [Value.ownBlock] at hj; omega) (bA wr _ _).size)
              | (refine step_append_rd (th := []) (ys := L.take i) wr.heap.size (.slice (some ⟨wr.heap.size, 0, none⟩) 0 0) (.slice (some ⟨g0, 0, none⟩) i cp) rfl (.tmp 44) (.tmp 47) rfl (by simp [Act.eval, Act.put]) (by simp [Act.eval, Act.put]) (eC wr) (HR1'.out.on (bC wr _)) (bC wr _).size E1.out ?_; intro v1 w1 o1 g1; have b1 : Below wr.heap.size wr w1 := gbelow (bC wr _) g1 (fun j hj => by simp [Value.ownBlock] at hj; omega) (bC wr _).size)
              | (refine step_append_rd (th := [] ++ L.take i) (ys := [x]) wr.heap.size v1 (.slice (some ⟨wr.heap.size, 0, none⟩) 1 1) rfl (.tmp 48) (.tmp 50) rfl (by simp [Act.eval, Act.put]) (by simp [Act.eval, Act.put]) o1 n1 b1.size E2.out ?_; intro v2 w2 o2 g2; have b2 : Below wr.heap.size wr w2 := gbelow b1 g2 (fun j hj => (World.ownsRow.lt o1 j hj).1) b1.size)
              | (refine step_append_rd (th := [] ++ L.take i) (ys := [x]) wr.heap.size v1 (.slice (some ⟨wr.heap.size + 1, 0, none⟩) 1 1) rfl (.tmp 48) (.tmp 50) rfl (by simp [Act.eval, Act.put]) (by simp [Act.eval, Act.put]) o1 n1 b1.size E2.out ?_; intro v2 w2 o2 g2; have b2 : Below wr.heap.size wr w2 := gbelow b1 g2 (fun j hj => (World.ownsRow.lt o1 j hj).1) b1.size)
              | (refine step_append_rd (th := [] ++ L.take i) (ys := [x]) wr.heap.size v1 (.slice (some ⟨w1.heap.size, 0, none⟩) 1 1) rfl (.tmp 48) (.tmp 50) rfl (by simp [Act.eval, Act.put]) (by simp [Act.eval, Act.put]) (o1.on (al1 w1 _)) (lit1 w1 x) (b1.trans ((al1 w1 _).mono b1.size)).size E2.out ?_; intro v2 w2 o2 g2; have b2 : Below wr.heap.size wr w2 := gbelow (b1.trans ((al1 w1 _).mono b1.size)) g2 (fun j hj => (World.ownsRow.lt o1 j hj).1) (b1.trans ((al1 w1 _).mono b1.size)).size)
              | (refine step_append_rd (th := [] ++ L.take i ++ [x]) (ys := L.drop i) wr.heap.size v2 (.slice (if cp = i then some ⟨g0, 0, none⟩ else some ⟨g0, i, none⟩) (m - i) (cp - i)) rfl (.tmp 51) (.tmp 54) rfl (by simp [Act.eval, Act.put]) (by simp [Act.eval, Act.put]) o2 (HR2'.out.on b2) b2.size E3.out ?_; intro v3 w3 o3 g3; have b3 : Below wr.heap.size wr w3 := gbelow b2 g3 (fun j hj => (World.ownsRow.lt o2 j hj).1) b2.size; have o3 : OwnZ wr.heap.size w3 v3 (ins L i x) := o3))
            all_goals (
              obtain ⟨q3, c3, e3, -⟩ := o3.cell
              subst e3
              have o4 : OwnZ w.heap.size w3 (.slice q3 (ins L i x).length c3) (ins L i x) := o3.mono hB.size
              have O4 := Lib.hid o4
              have B4 := belows hB b3
              have G3 : Hid (Gat zs (ins L i x) (k + 1)) := Lib.hid (by rw [HX.out]; exact G2.out)
              clear o3 o4 o2 o1 g1 g2 g3 b1 b2 b3 E1 E2 E3 HR1' HR2' G2 hO hGa hB
              go_wp2
              exact ⟨⟨k + 1, _, c3, q3, ins L i x, rfl, hlt, rfl, rfl, O4, G3, B4⟩, by simp [intOf]; omega⟩)
    · have g : decide ((k : Int) < (N : Int)) = false := by simp; omega
      have e : k = N := by omega
      have hG2 := hGa.out
      rw [e, ← HN.out] at hG2
      have HD := Lib.hid hG2.done
      clear e hG2
      go_wp2
      go_ret
      exact ⟨_, rfl, by rw [← HD.out]; exact hO.out, hB⟩
end Go.Proofs.YtepcokgpepcccaaDoor
