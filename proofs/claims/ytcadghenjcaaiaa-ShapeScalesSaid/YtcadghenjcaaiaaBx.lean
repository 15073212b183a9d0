/- Box of the program. -/
import Derived.Test.YtcadghenjcaaiaaWb
namespace Go.Proofs.Ytcadghenjcaaiaa
open Go.ChangeShapes Go.WideShapes Go.ChangeAt Go.RowKit
set_option linter.unusedVariables false
set_option linter.unusedSimpArgs false

def cb (x : Bx) : List Value := [.int .i64 x.a, .int .i64 x.b, .int .i64 x.c, .int .i64 x.d, .int .i64 x.e, .int .i64 x.f]
theorem cbl (x : Bx) : (cb x).length = 6 := rfl
def bxp (p : Pt) : Bx := ⟨p.x, p.y, p.z, p.x, p.y, p.z⟩
def hullL : List Bx → Bx
  | [] => zB
  | x :: l => l.foldl hullB x
theorem pt_sum {b : Bar} (h : barB b = true) : ∀ k, k ≤ nl b.code → (pt b k).bd ((legs b).take k).sum ∧ 0 ≤ ((legs b).take k).sum
  | 0, _ => by simp [pt, Pt.bd]
  | k + 1, hk => by
    have h1 := pt_sum h k (by omega)
    have h2 := leg_bd h (j := k) (by omega)
    have h3 := mv_bd (c := way b.code k) h1.1 (n := legF b k) (by omega)
    have e : ((legs b).take (k + 1)).sum = ((legs b).take k).sum + legF b k := by
      rw [List.take_succ_eq_append_getElem (by rw [legs_len]; omega), List.sum_append]; simp [legs]
    rw [e]
    exact ⟨h3, by omega⟩
theorem take_le {b : Bar} (h : barB b = true) : ∀ k, k ≤ nl b.code → ((legs b).take (nl b.code - k)).sum ≤ (legs b).sum
  | 0, _ => by rw [Nat.sub_zero, List.take_of_length_le (by rw [legs_len]; omega)]; exact Int.le_refl _
  | k + 1, hk => by
    have h1 := take_le h k (by omega)
    have hj : nl b.code - (k + 1) < nl b.code := by omega
    have h2 := leg_bd h hj
    have e : ((legs b).take (nl b.code - k)).sum = ((legs b).take (nl b.code - (k + 1))).sum + legF b (nl b.code - (k + 1)) := by
      rw [show nl b.code - k = (nl b.code - (k + 1)) + 1 by omega, List.take_succ_eq_append_getElem (by rw [legs_len]; omega), List.sum_append]; simp [legs]
    omega
theorem pt_near {b : Bar} (h : barB b = true) {k : Nat} (hk : k ≤ nl b.code) : (pt b k).bd 524288 := by
  have h1 := (pt_sum h k hk).1
  have h2 := take_le h (nl b.code - k) (by omega)
  rw [show nl b.code - (nl b.code - k) = k by omega] at h2
  have h3 := legs_sum h
  unfold Pt.bd at h1 ⊢
  omega
theorem bxp_ok {p : Pt} (h : p.bd 524288) : (bxp p).ok = true := by
  obtain ⟨⟨a, b⟩, ⟨c, d⟩, e, f⟩ := h
  unfold Bx.ok bxp vB sdV
  simp; omega
theorem sl_own {B : Nat} {w : World} {v : Value} {l : List Bx} {n : Nat} (h : Own cb 42 6 B w v l) (hl : l.length = n + 1) (hm : n + 1 ≤ maxLen) : ∃ g c, v = .slice (some ⟨g, 0, none⟩) (n + 1) c ∧ Sl w (some ⟨g, 0, none⟩) l ∧ n + 1 ≤ c := by
  have hr := Own.rd cbl h
  obtain ⟨hl2, ⟨rfl, h0⟩ | ⟨g, cap, cur, rfl, hB, hg, hn, hm2, hs, ht⟩⟩ := h
  · omega
  · rw [hl] at hn
    refine ⟨g, cap, by rw [hl], ⟨fun h => (by cases h), fun a ha => ?_, (by omega)⟩, hn⟩
    cases ha
    obtain ⟨q, c, e, k⟩ := hr
    simp only [Value.slice.injEq] at e
    obtain ⟨rfl, -, rfl⟩ := e
    intro i hi
    obtain ⟨g', e, hc⟩ := k i hi
    cases e
    have ad : (⟨g, 0, none⟩ : Addr).add (i * 6) = ⟨g, i * 6, none⟩ := by rw [Addr.add_lit, Nat.zero_add]
    rw [ad]
    have h0 := hc 0 (by omega)
    have h1 := hc 1 (by omega)
    have h2 := hc 2 (by omega)
    have h3 := hc 3 (by omega)
    have h4 := hc 4 (by omega)
    have h5 := hc 5 (by omega)
    simp [cb] at h0 h1 h2 h3 h4 h5
    exact ⟨h0, h1, h2, h3, h4, h5⟩
theorem info42 : (Try.prog.info? 42).map (fun i => (i.zero, i.size, i.bytes)) = some (some (.agg #[.int .i64 0, .int .i64 0, .int .i64 0, .int .i64 0, .int .i64 0, .int .i64 0]), 6, 48) := by kernel_rfl
theorem Env.grow {w w1 w2 : World} {l : List Fb} {row : Option Nat} (E : Env w w1 l) (hg : w1.grownBy w2 row) (hr : ∀ k, row = some k → (∀ y ∈ l, y.g ≠ k) ∧ w.heap.size ≤ k) : Env w w2 l := by
  refine ⟨E.1.grown hg E.1.size (fun k hk => (hr k hk).2), ?_⟩
  have h := E.2
  have hr1 : ∀ k, row = some k → ∀ y ∈ l, y.g ≠ k := fun k hk => (hr k hk).1
  clear hr E
  induction l with
  | nil => trivial
  | cons x l ih =>
    obtain ⟨h1, h2, h3, h4⟩ := h
    exact ⟨h1, Has.grown_ h2 hg (fun e => hr1 x.g e.symm x (List.mem_cons_self ..) rfl), h3, ih h4 (fun k hk y hy => hr1 k hk y (List.mem_cons_of_mem _ hy))⟩
set_option maxHeartbeats 8000000 in
set_option maxRecDepth 100000 in
theorem Box_no (b : Bar) (w : World) (hk : b.Ok w) (hv : barB b = false) : Calls Try.prog 19 #[b.val] w fun e w' => e = .returned (.tuple #[.agg #[.int .i64 0, .int .i64 0, .int .i64 0, .int .i64 0, .int .i64 0, .int .i64 0], .int .i64 1]) ∧ Below w.heap.size w w' := by
  have hV := fun W (h : Below w.heap.size w W) => Path_no b W (hk.on h) hv
  have E := ((Env.nil w).add w.heap.size 32 b.cs rfl).add (w.heap.size + 1) 42 #[.int .i64 0, .int .i64 0, .int .i64 0, .int .i64 0, .int .i64 0, .int .i64 0] (by simp)
  clear hk hv
  simp only [Bar.val, Bar.cs] at *
  have C := E.cells
  simp [BC, CF] at C
  go_enter Try.func19, Try.ntmps19
  go_wp2_with (go_at_call 18; (with_reducible refine (hV _ (envb E)).mono ?_); rintro X w1 ⟨rfl, hb⟩; replace E := E.on hb; replace C := E.cells; simp [BC, CF] at C; clear hb)
  refine bodyPost_ret (v := .tuple #[.agg #[.int .i64 0, .int .i64 0, .int .i64 0, .int .i64 0, .int .i64 0, .int .i64 0], .int .i64 1]) (by simp [results, Try.results19, go_sem, C]) rfl ⟨rfl, ?_⟩
  exact (E.six 0 rfl).1
set_option maxHeartbeats 16000000 in
set_option maxRecDepth 100000 in
theorem Box_ok (b : Bar) (w : World) (hk : b.Ok w) (hv : barB b = true) : Calls Try.prog 19 #[b.val] w fun e w' => e = .returned (.tuple #[(hullL ((pts b).map bxp)).val, .int .i64 0]) ∧ Below w.heap.size w w' := by
  have hV := fun W (h : Below w.heap.size w W) => Path_ok b W (hk.on h) hv
  have E := ((Env.nil w).add w.heap.size 32 b.cs rfl).add (w.heap.size + 1) 42 #[.int .i64 0, .int .i64 0, .int .i64 0, .int .i64 0, .int .i64 0, .int .i64 0] (by simp)
  have n6 := nl_le (barB_and hv).1
  have hall : ((pts b).map bxp).all Bx.ok = true := by
    rw [List.all_eq_true]
    intro x hx
    obtain ⟨p, hp, rfl⟩ := List.mem_map.1 hx
    obtain ⟨k, hk, rfl⟩ := List.mem_map.1 (show p ∈ (List.range (nl b.code + 1)).map (pt b) from hp)
    exact bxp_ok (pt_near hv (by have := List.mem_range.1 hk; omega))
  have hPL := Lib.hid (pts_len b)
  have HALL := Lib.hid hall
  clear hk hv hall
  simp only [Bar.val, Bar.cs] at *
  generalize pts b = PS at *
  generalize nl b.code = n at *
  have C := E.cells
  simp [BC, CF] at C
  obtain ⟨RES, hRES⟩ : ∃ R : Bx, Hid (hullL (PS.map bxp) = R) := ⟨_, Lib.hid rfl⟩
  rw [hRES.out]
  unfold Bx.val
  obtain ⟨i0, hinf, hz0, hz1, hz2⟩ := info_parts info42
  go_enter Try.func19, Try.ntmps19
  go_wp2_with (go_at_call 18; (with_reducible refine (hV _ (envb E)).mono ?_); rintro X w1 ⟨v, rfl, hO, hb⟩; replace E := E.on hb; replace C := E.cells; simp [BC, CF] at C; clear hb; obtain ⟨gp, cap2, rfl, hP⟩ := ownf hO hPL.out)
  have HPc := Lib.hid hP
  have e1 := E.lt 0 (by simp)
  simp only [numB] at e1
  go_loopw [6, 20] (fun v6 v20 wr => ∃ (k : Nat) (F : Value), v20 = .int .i64 k ∧ F = v6 ∧ k ≤ n + 1 ∧ Own cb 42 6 w1.heap.size wr F ((PS.take k).map bxp) ∧ Env w wr [⟨w.heap.size + 1, 42, #[.int .i64 0, .int .i64 0, .int .i64 0, .int .i64 0, .int .i64 0, .int .i64 0]⟩, ⟨w.heap.size, 32, #[.string b.mark, .int .i64 b.size, .int .i64 b.count, .int .i64 b.code, .slice b.p b.ds.length b.cap]⟩] ∧ Below w1.heap.size w1 wr) (fun _ v _ => n + 1 - (intOf v).toNat)
  case atStart => exact ⟨0, _, rfl, rfl, Nat.zero_le _, ⟨rfl, .inl ⟨rfl, rfl⟩⟩, E, Below.refl _ _⟩
  case round =>
    clear E C hO hP
    obtain ⟨k, F, rfl, rfl, hk, hO, E, B⟩ := hrel
    have C := E.cells
    simp [BC, CF] at C
    by_cases hlt : k < n + 1
    · have g1 : decide ((k : Int) < ((n + 1 : Nat) : Int)) = true := by simp; omega
      have g2 : decide ((k : Int) < (n : Int) + 1) = true := by simp; omega
      have W1 : IntKind.i64.wrap ((k : Int) + 1) = ((k + 1 : Nat) : Int) := by rw [IntWalk.i64_in _ (by omega)]; omega
      have p1 : (0 : Int) ≤ (k : Int) := by omega
      have p2 : (k : Int) < (n : Int) + 1 := by omega
      have p3 : k < n + 1 := hlt
      obtain ⟨a0, a1, a2⟩ := HPc.out k (by rw [hPL.out]; omega)
      obtain ⟨⟨x0, y0, z0⟩, hP2⟩ : ∃ p : Pt, Hid (PS[k]'(by rw [hPL.out]; omega) = p) := ⟨_, Lib.hid rfl⟩
      rw [hP2.out] at a0 a1 a2
      dsimp only at a0 a1 a2
      replace a0 := cell_later B a0
      replace a1 := cell_later B a1
      replace a2 := cell_later B a2
      have hl : Hid ((PS.take (k + 1)).map bxp = (PS.take k).map bxp ++ [⟨x0, y0, z0, x0, y0, z0⟩]) := Lib.hid (by rw [List.take_succ_eq_append_getElem (by rw [hPL.out]; omega), List.map_append, List.map_cons, hP2.out]; rfl)
      have hlen : ((PS.take k).map bxp).length = k := by rw [List.length_map, List.length_take, hPL.out]; omega
      generalize (PS.take k).map bxp = O at *
      have E5 := E.more (.cells #[.int .i64 x0, .int .i64 y0, .int .i64 z0] 40)
      have O5 := own_on hO (al1 wr (.cells #[.int .i64 x0, .int .i64 y0, .int .i64 z0] 40))
      have B5 := belows B (al1 wr (.cells #[.int .i64 x0, .int .i64 y0, .int .i64 z0] 40))
      have s5 := B.size
      have hn : ((wr.alloc (.cells #[.int .i64 x0, .int .i64 y0, .int .i64 z0] 40)).alloc (.cells #[.int .i64 x0, .int .i64 y0, .int .i64 z0, .int .i64 x0, .int .i64 y0, .int .i64 z0] 42)).heap[wr.heap.size + 1]? = some (.cells #[.int .i64 x0, .int .i64 y0, .int .i64 z0, .int .i64 x0, .int .i64 y0, .int .i64 z0] 42) := by
        have h := heap_alloc_new (wr.alloc (.cells #[.int .i64 x0, .int .i64 y0, .int .i64 z0] 40)) (.cells #[.int .i64 x0, .int .i64 y0, .int .i64 z0, .int .i64 x0, .int .i64 y0, .int .i64 z0] 42)
        rwa [show (wr.alloc (.cells #[.int .i64 x0, .int .i64 y0, .int .i64 z0] 40)).heap.size = wr.heap.size + 1 by simp] at h
      have HN := Lib.hid hn
      have E6 := E5.more (.cells #[.int .i64 x0, .int .i64 y0, .int .i64 z0, .int .i64 x0, .int .i64 y0, .int .i64 z0] 42)
      have hOO := own_on O5 (al1 _ (.cells #[.int .i64 x0, .int .i64 y0, .int .i64 z0, .int .i64 x0, .int .i64 y0, .int .i64 z0] 42))
      have B6 := belows B5 (al1 _ (.cells #[.int .i64 x0, .int .i64 y0, .int .i64 z0, .int .i64 x0, .int .i64 y0, .int .i64 z0] 42))
      have s6 := B6.size
      clear hO E5 O5 B5 hn
      go_wp2_with (at_builtin; refine wpList_append_own_at _ rfl _ _ 66 rfl w1.heap.size 42 i0 _ 6 48 Try.underlying66 hinf hz0 hz1 hz2 rfl (by decide) _ O.length (O.flatMap cb) rfl hOO ⟨_, 0, none⟩ 1 1 [.int .i64 x0, .int .i64 y0, .int .i64 z0, .int .i64 x0, .int .i64 y0, .int .i64 z0] rfl rfl (World.news_of_block (cs := #[.int .i64 x0, .int .i64 y0, .int .i64 z0, .int .i64 x0, .int .i64 y0, .int .i64 z0]) (t := 42) (fr := (0, 0)) HN.out) (by simp [Value.oneCell']) (by unfold maxLen; omega) (by omega) s6 ?_)
      intro v' w6 r1 r2 r3 r4
      have O7 : Own cb 42 6 w1.heap.size w6 v' (O ++ [⟨x0, y0, z0, x0, y0, z0⟩]) := own_snoc (by rw [hlen]; exact r1)
      have hge := fun q (hq : _ = some q) => (World.ownsRow.lt hOO q hq).1
      have lt0 := E.lt 0 (by simp)
      have B7 : Below w1.heap.size w1 w6 := B6.grown r2 s6 (fun q hq => hge q hq)
      have E7 : Env w w6 [⟨w.heap.size + 1, 42, #[.int .i64 0, .int .i64 0, .int .i64 0, .int .i64 0, .int .i64 0, .int .i64 0]⟩, ⟨w.heap.size, 32, #[.string b.mark, .int .i64 b.size, .int .i64 b.count, .int .i64 b.code, .slice b.p b.ds.length b.cap]⟩] := E6.grow r2 (fun q hq => ⟨fun y hy => by have := hge q hq; simp at hy; rcases hy with rfl | rfl <;> dsimp only <;> omega, by have := hge q hq; omega⟩)
      clear r1 r2 r3 r4 hOO E6 E B6
      go_wp2
      go_roundw
      · exact ⟨k + 1, _, rfl, rfl, hlt, (by rw [hl.out]; exact O7), E7, B7⟩
      · simp [intOf]; omega
    · have g1 : decide ((k : Int) < ((n + 1 : Nat) : Int)) = false := by simp; omega
      have g2 : decide ((k : Int) < (n : Int) + 1) = false := by simp; omega
      obtain rfl : k = n + 1 := by omega
      rw [List.take_of_length_le (by rw [hPL.out]; omega)] at hO
      obtain ⟨gs, cs, rfl, hSl, hcs⟩ := sl_own (n := n) hO (by rw [List.length_map, hPL.out]) (by unfold maxLen; omega)
      obtain ⟨x, l, hxl⟩ : ∃ x l, Hid (PS.map bxp = x :: l) := by
        cases h : PS.map bxp with
        | nil => have := congrArg List.length h; rw [List.length_map, hPL.out] at this; simp at this
        | cons x l => exact ⟨x, l, Lib.hid rfl⟩
      have hln : l.length = n := by
        have := congrArg List.length hxl.out
        rw [List.length_map, hPL.out] at this; simp at this; omega
      rw [hxl.out] at hSl
      have hRES2 := hRES.out
      rw [hxl.out] at hRES2
      have h35 := fun W h => Hull_ok ⟨gs, 0, none⟩ x l cs W h (by rw [← hxl.out]; exact HALL.out) (by omega)
      rw [hln] at h35
      clear hO hln
      rw [show l.foldl hullB x = RES from hRES2] at h35
      unfold Bx.val at h35
      go_wp2_with (go_at_call 35; (with_reducible refine (h35 _ hSl).mono ?_); rintro X w7 ⟨rfl, hb⟩; replace E := E.on hb; replace C := E.cells; simp [BC, CF] at C; clear hb)
      refine bodyPost_ret (v := .tuple #[.agg #[.int .i64 RES.a, .int .i64 RES.b, .int .i64 RES.c, .int .i64 RES.d, .int .i64 RES.e, .int .i64 RES.f], .int .i64 0]) (by simp [results, Try.results19, go_sem, C]) rfl ⟨rfl, ?_⟩
      exact (E.six 0 rfl).1
end Go.Proofs.Ytcadghenjcaaiaa
