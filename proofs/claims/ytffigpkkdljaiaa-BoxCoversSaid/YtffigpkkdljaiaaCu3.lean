/- BoxCovers. -/
import Derived.Test.YtffigpkkdljaiaaCu2
import Derived.Test.YtffigpkkdljaiaaAl
namespace Go.Proofs.Ytffigpkkdljaiaa
open Go.ChangeShapes Go.WideShapes Go.ChangeAt Go.RowKit
set_option linter.unusedVariables false
set_option linter.unusedSimpArgs false

theorem parts_any (p : Option Addr) (l : List Bx) (cap : Nat) (b : Bx) (w : World) (hS : Sl w p l) (hl : l.length ≤ 8) (hb : b.ok = true) :
    Calls Try.prog 57 #[.slice p l.length cap, b.val] w fun e w' => ∃ v, e = .returned v ∧ Own cb 25 6 w.heap.size w' v (prt (cutS b.a b.d (sds l 0)) (cutS b.b b.e (sds l 1)) (cutS b.c b.f (sds l 2))) ∧ Below w.heap.size w w' := by
  have h := Bx.ok_i.1 hb
  have hs : ∀ i, (sds l i).length ≤ 8 := fun i => by simp [sds]; omega
  have c0 := fun W hW => cuts_any 0 (fun p _ _ => p) (fun p q r W => rcoord0 p q r W) p l cap b W hW (by omega) (sds l 0) rfl b.a b.d rfl rfl (by omega) (by omega) (by omega)
  have c1 := fun W hW => cuts_any 1 (fun _ q _ => q) (fun p q r W => rcoord1 p q r W) p l cap b W hW (by omega) (sds l 1) rfl b.b b.e rfl rfl (by omega) (by omega) (by omega)
  have c2 := fun W hW => cuts_any 2 (fun _ _ r => r) (fun p q r W => rcoord2 p q r W) p l cap b W hW (by omega) (sds l 2) rfl b.c b.f rfl rfl (by omega) (by omega) (by omega)
  have k := parts_core p l cap b w hS _ _ _ (refX_ne _ _ _) (refX_ne _ _ _) (refX_ne _ _ _) (refX_small _ _ _ (hs 0)) (refX_small _ _ _ (hs 1)) (refX_small _ _ _ (hs 2)) c0 c1 c2
  rw [prX_cut, prX_cut, prX_cut] at k
  exact k
theorem cut_in {lo hi : Int} {os : List S2} (h : lo ≤ hi) {p : S2} (hp : p ∈ cutS lo hi os) : lo ≤ p.1 ∧ p.1 ≤ p.2 ∧ p.2 ≤ hi := by
  unfold cutS at hp
  split at hp
  · rename_i e; rw [List.mem_singleton.1 hp]; subst e; simp
  · obtain ⟨a1, a2⟩ := srt_asc (ends lo hi os)
    obtain ⟨⟨k1, k2⟩, k3, -⟩ := prs_apart _ a1 p hp
    have b1 := ends_b h ((a2 _).1 k1)
    have b2 := ends_b h ((a2 _).1 k2)
    omega
theorem prt_ok (l : List Bx) {b : Bx} (hb : b.ok = true) : ∀ x ∈ prt (cutS b.a b.d (sds l 0)) (cutS b.b b.e (sds l 1)) (cutS b.c b.f (sds l 2)), x.ok = true := by
  intro x hx
  have h := Bx.ok_i.1 hb
  simp only [prt, List.mem_flatMap, List.mem_map] at hx
  obtain ⟨p, hp, q, hq, r, hr, rfl⟩ := hx
  have k1 := cut_in (by omega) hp
  have k2 := cut_in (by omega) hq
  have k3 := cut_in (by omega) hr
  rw [Bx.ok_i]
  simp only [pbox]
  omega
theorem s_in {w W' : World} {b y : Bx} {A0 A1 A2 A3 A4 A5 : Addr} (E : Env w W' [⟨w.heap.size, 25, #[.int .i64 b.a, .int .i64 b.b, .int .i64 b.c, .int .i64 b.d, .int .i64 b.e, .int .i64 b.f]⟩]) (h0 : w.cell? A0 = some (.int .i64 y.a)) (h1 : w.cell? A1 = some (.int .i64 y.b)) (h2 : w.cell? A2 = some (.int .i64 y.c)) (h3 : w.cell? A3 = some (.int .i64 y.d)) (h4 : w.cell? A4 = some (.int .i64 y.e)) (h5 : w.cell? A5 = some (.int .i64 y.f)) :
    Env w W' [⟨w.heap.size, 25, #[.int .i64 b.a, .int .i64 b.b, .int .i64 b.c, .int .i64 b.d, .int .i64 b.e, .int .i64 b.f]⟩] ∧ W'.cell? ⟨w.heap.size, 0, none⟩ = some (.int .i64 b.a) ∧ W'.cell? ⟨w.heap.size, 1, none⟩ = some (.int .i64 b.b) ∧ W'.cell? ⟨w.heap.size, 2, none⟩ = some (.int .i64 b.c) ∧ W'.cell? ⟨w.heap.size, 3, none⟩ = some (.int .i64 b.d) ∧ W'.cell? ⟨w.heap.size, 4, none⟩ = some (.int .i64 b.e) ∧ W'.cell? ⟨w.heap.size, 5, none⟩ = some (.int .i64 b.f) ∧ W'.cell? A0 = some (.int .i64 y.a) ∧ W'.cell? A1 = some (.int .i64 y.b) ∧ W'.cell? A2 = some (.int .i64 y.c) ∧ W'.cell? A3 = some (.int .i64 y.d) ∧ W'.cell? A4 = some (.int .i64 y.e) ∧ W'.cell? A5 = some (.int .i64 y.f) := by
  have C := E.cells
  simp [BC, CF] at C
  have k0 := cell_later (envb E) h0
  have k1 := cell_later (envb E) h1
  have k2 := cell_later (envb E) h2
  have k3 := cell_later (envb E) h3
  have k4 := cell_later (envb E) h4
  have k5 := cell_later (envb E) h5
  simp [C, E, k0, k1, k2, k3, k4, k5]
set_option maxHeartbeats 16000000 in
set_option maxRecDepth 100000 in
theorem in_any (p : Option Addr) (l : List Bx) (cap : Nat) (b : Bx) (w : World) (hS : Sl w p l) (ha : l.all Bx.ok = true) (hb : b.ok = true) :
    Calls Try.prog 58 #[.slice p l.length cap, b.val] w fun e w' => e = .returned (.bool (inB l b)) ∧ Below w.heap.size w w' := by
  have hm := hS.2.2
  unfold maxLen at hm
  obtain ⟨RES, hRES⟩ : ∃ R, R = inB l b := ⟨_, rfl⟩
  rw [← hRES]
  have HR := Lib.hid hRES
  have HA := Lib.hid (List.all_eq_true.1 ha)
  clear hRES ha
  have E := (Env.nil w).add w.heap.size 25 #[.int .i64 b.a, .int .i64 b.b, .int .i64 b.c, .int .i64 b.d, .int .i64 b.e, .int .i64 b.f] rfl
  have h31 := fun (y : Bx) (hy : y.ok = true) W => rcon_any y b W hy hb
  unfold Bx.val at *
  have C := E.cells
  simp [BC, CF] at C
  go_enter Try.func58, Try.ntmps58
  go_wp2_with fail
  go_loopw [5] (fun v wr => ∃ k : Nat, v = .int .i64 k ∧ k ≤ l.length ∧ Hid (∀ y ∈ l.take k, conB y b = false) ∧ Env w wr [⟨w.heap.size, 25, #[.int .i64 b.a, .int .i64 b.b, .int .i64 b.c, .int .i64 b.d, .int .i64 b.e, .int .i64 b.f]⟩]) (fun v _ => l.length - (intOf v).toNat)
  case atStart => exact ⟨0, rfl, Nat.zero_le _, Lib.hid (by simp), E⟩
  case round =>
    clear E C
    obtain ⟨k, rfl, hk, hG, E⟩ := hrel
    by_cases hlt : k < l.length
    · have g1 : decide ((k : Int) < (l.length : Int)) = true := by simp [hlt]
      have W1 : IntKind.i64.wrap ((k : Int) + 1) = ((k + 1 : Nat) : Int) := by rw [IntWalk.i64_in _ (by omega)]; omega
      have q3 : (0 : Int) ≤ (k : Int) := by omega
      have q4 : (k : Int) < (l.length : Int) := by omega
      obtain ⟨a, rfl, e0, e1, e2, e3, e4, e5⟩ := hS.at hlt
      have h := h31 l[k] (HA.out _ (List.getElem_mem hlt))
      have HT : Hid (conB l[k] b = false → ∀ y ∈ l.take (k + 1), conB y b = false) := Lib.hid (fun hc y hy => by
        rw [List.take_succ_eq_append_getElem hlt] at hy
        rcases List.mem_append.1 hy with hy | hy
        · exact hG.out y hy
        · rw [List.mem_singleton.1 hy]; exact hc)
      have HY : Hid (conB l[k] b = true → inB l b = true) := Lib.hid (fun hc => List.any_eq_true.2 ⟨_, List.getElem_mem hlt, hc⟩)
      generalize l[k] = y at *
      cases hc : conB y b
      · rw [hc] at h
        go_wp2_with fail
        refine wp_region_plan 5 [(0, true), (1, true), (2, true), (3, true), (4, true)] (fun W' => Env w W' [⟨w.heap.size, 25, #[.int .i64 b.a, .int .i64 b.b, .int .i64 b.c, .int .i64 b.d, .int .i64 b.e, .int .i64 b.f]⟩] ∧ W'.cell? ⟨w.heap.size, 0, none⟩ = some (.int .i64 b.a) ∧ W'.cell? ⟨w.heap.size, 1, none⟩ = some (.int .i64 b.b) ∧ W'.cell? ⟨w.heap.size, 2, none⟩ = some (.int .i64 b.c) ∧ W'.cell? ⟨w.heap.size, 3, none⟩ = some (.int .i64 b.d) ∧ W'.cell? ⟨w.heap.size, 4, none⟩ = some (.int .i64 b.e) ∧ W'.cell? ⟨w.heap.size, 5, none⟩ = some (.int .i64 b.f) ∧ W'.cell? (a.add (k * 6)) = some (.int .i64 y.a) ∧ W'.cell? ⟨(a.add (k * 6)).block, (a.add (k * 6)).off + 1, none⟩ = some (.int .i64 y.b) ∧ W'.cell? ⟨(a.add (k * 6)).block, (a.add (k * 6)).off + 2, none⟩ = some (.int .i64 y.c) ∧ W'.cell? ⟨(a.add (k * 6)).block, (a.add (k * 6)).off + 3, none⟩ = some (.int .i64 y.d) ∧ W'.cell? ⟨(a.add (k * 6)).block, (a.add (k * 6)).off + 4, none⟩ = some (.int .i64 y.e) ∧ W'.cell? ⟨(a.add (k * 6)).block, (a.add (k * 6)).off + 5, none⟩ = some (.int .i64 y.f)) (by kernel_rfl) (by kernel_rfl) (fun _ _ d _ _ h => by cases d <;> exact h) (s_in E.drw e0 e1 e2 e3 e4 e5) ?_
        simp only [List.filterMap_cons, List.filterMap_nil, List.getElem?_cons_zero, List.getElem?_cons_succ, Option.map_some, List.drop_succ_cons, List.drop_zero]
        iterate 5 (refine wpPlan_still (v := ?_) (Or.inl ⟨by rfl, ?_⟩) ?_; rotate_left; (focus (intro W hW; (try dsimp only at hW); go_split_ands; go_simp; try with_reducible rfl)); try simp only [Act.put, List.setIfInBounds_toArray, List.set_cons_zero, List.set_cons_succ])
        refine wpPlan_end ?_
        replace E := E.drw
        go_wp2_with (go_at_call 31; (with_reducible refine (h _).mono ?_); rintro X w1 ⟨rfl, hb1⟩; replace E := E.on hb1; clear hb1)
        exact ⟨⟨k + 1, rfl, hlt, Lib.hid (HT.out hc), E⟩, by simp [intOf]; omega⟩
      · rw [hc] at h
        have e : RES = true := by rw [HR.out]; exact HY.out hc
        subst e
        go_wp2_with fail
        refine wp_region_plan 5 [(0, true), (1, true), (2, true), (3, true), (4, true)] (fun W' => Env w W' [⟨w.heap.size, 25, #[.int .i64 b.a, .int .i64 b.b, .int .i64 b.c, .int .i64 b.d, .int .i64 b.e, .int .i64 b.f]⟩] ∧ W'.cell? ⟨w.heap.size, 0, none⟩ = some (.int .i64 b.a) ∧ W'.cell? ⟨w.heap.size, 1, none⟩ = some (.int .i64 b.b) ∧ W'.cell? ⟨w.heap.size, 2, none⟩ = some (.int .i64 b.c) ∧ W'.cell? ⟨w.heap.size, 3, none⟩ = some (.int .i64 b.d) ∧ W'.cell? ⟨w.heap.size, 4, none⟩ = some (.int .i64 b.e) ∧ W'.cell? ⟨w.heap.size, 5, none⟩ = some (.int .i64 b.f) ∧ W'.cell? (a.add (k * 6)) = some (.int .i64 y.a) ∧ W'.cell? ⟨(a.add (k * 6)).block, (a.add (k * 6)).off + 1, none⟩ = some (.int .i64 y.b) ∧ W'.cell? ⟨(a.add (k * 6)).block, (a.add (k * 6)).off + 2, none⟩ = some (.int .i64 y.c) ∧ W'.cell? ⟨(a.add (k * 6)).block, (a.add (k * 6)).off + 3, none⟩ = some (.int .i64 y.d) ∧ W'.cell? ⟨(a.add (k * 6)).block, (a.add (k * 6)).off + 4, none⟩ = some (.int .i64 y.e) ∧ W'.cell? ⟨(a.add (k * 6)).block, (a.add (k * 6)).off + 5, none⟩ = some (.int .i64 y.f)) (by kernel_rfl) (by kernel_rfl) (fun _ _ d _ _ h => by cases d <;> exact h) (s_in E.drw e0 e1 e2 e3 e4 e5) ?_
        simp only [List.filterMap_cons, List.filterMap_nil, List.getElem?_cons_zero, List.getElem?_cons_succ, Option.map_some, List.drop_succ_cons, List.drop_zero]
        iterate 5 (refine wpPlan_still (v := ?_) (Or.inl ⟨by rfl, ?_⟩) ?_; rotate_left; (focus (intro W hW; (try dsimp only at hW); go_split_ands; go_simp; try with_reducible rfl)); try simp only [Act.put, List.setIfInBounds_toArray, List.set_cons_zero, List.set_cons_succ])
        refine wpPlan_end ?_
        replace E := E.drw
        go_wp2_with (go_at_call 31; (with_reducible refine (h _).mono ?_); rintro X w1 ⟨rfl, hb1⟩; replace E := E.on hb1; clear hb1)
        go_ret
        exact ⟨rfl, envb E⟩
    · have g1 : decide ((k : Int) < (l.length : Int)) = false := by simp; omega
      have hg := hG.out
      rw [List.take_of_length_le (by omega)] at hg
      have e : RES = false := by
        rw [HR.out]
        unfold inB
        rw [List.any_eq_false]
        exact fun y hy => by simp [hg y hy]
      subst e
      go_wp2
      go_ret
      exact ⟨rfl, envb E⟩
theorem own_slB {B : Nat} {w : World} {v : Value} {l : List Bx} (h : Own cb 25 6 B w v l) (hl : l.length ≤ 100000) : ∃ q c, v = .slice q l.length c ∧ Sl w q l := by
  obtain ⟨q, c, rfl, hC⟩ := Own.rd bl h
  refine ⟨q, c, rfl, ?_, ?_, by unfold maxLen; omega⟩
  · intro e
    rcases l with _ | ⟨x, l⟩
    · rfl
    · obtain ⟨g, e2, -⟩ := hC 0 (by simp); rw [e] at e2; cases e2
  · intro a e i hi
    obtain ⟨g, e2, hc⟩ := hC i hi
    rw [e] at e2
    cases e2
    have ad : (⟨g, 0, none⟩ : Addr).add (i * 6) = ⟨g, i * 6, none⟩ := by unfold Addr.add; split <;> simp_all
    rw [ad]
    exact ⟨hc 0 (by omega), hc 1 (by omega), hc 2 (by omega), hc 3 (by omega), hc 4 (by omega), hc 5 (by omega)⟩
set_option maxHeartbeats 16000000 in
set_option maxRecDepth 100000 in
theorem rcovers_any (p : Option Addr) (l : List Bx) (cap : Nat) (b : Bx) (w : World) (hS : Sl w p l) (hl : l.length ≤ 8) (ha : l.all Bx.ok = true) (hb : b.ok = true) :
    Calls Try.prog 33 #[.slice p l.length cap, b.val] w fun e w' => e = .returned (.bool (covB l b)) ∧ Below w.heap.size w w' := by
  obtain ⟨RES, hRES⟩ : ∃ R, R = covB l b := ⟨_, rfl⟩
  rw [← hRES]
  rw [cov_prt] at hRES
  have h57 := fun W hW => parts_any p l cap b W hW hl hb
  have hok := prt_ok l hb
  have hln : (prt (cutS b.a b.d (sds l 0)) (cutS b.b b.e (sds l 1)) (cutS b.c b.f (sds l 2))).length ≤ 6174 := by
    have hs : ∀ i, (sds l i).length ≤ 8 := fun i => by simp [sds]; omega
    have n0 := cutS_len b.a b.d (sds l 0)
    have n1 := cutS_len b.b b.e (sds l 1)
    have n2 := cutS_len b.c b.f (sds l 2)
    have m0 := hs 0
    have m1 := hs 1
    have m2 := hs 2
    rw [prt_len]
    have h4 := Nat.mul_le_mul (show (cutS b.b b.e (sds l 1)).length ≤ 18 by omega) (show (cutS b.c b.f (sds l 2)).length ≤ 18 by omega)
    have h5 := Nat.mul_le_mul (show (cutS b.a b.d (sds l 0)).length ≤ 18 by omega) h4
    omega
  generalize prt (cutS b.a b.d (sds l 0)) (cutS b.b b.e (sds l 1)) (cutS b.c b.f (sds l 2)) = O at *
  have HR := Lib.hid hRES
  have HK := Lib.hid hok
  clear hRES hok
  have E := (Env.nil w).add w.heap.size 25 #[.int .i64 b.a, .int .i64 b.b, .int .i64 b.c, .int .i64 b.d, .int .i64 b.e, .int .i64 b.f] rfl
  have h58 := fun (y : Bx) (hy : y.ok = true) W hW => in_any p l cap y W hW ha hy
  unfold Bx.val at *
  have C := E.cells
  simp [BC, CF] at C
  go_enter Try.func33, Try.ntmps33
  go_wp2_with (go_at_call 57; (with_reducible refine (h57 _ (hS.on (envb E))).mono ?_); rintro X w1 ⟨v, rfl, hO, hb1⟩; replace E := E.on hb1; clear hb1)
  obtain ⟨q, c, rfl, hSO⟩ := own_slB hO (by omega)
  have HSW := envb E
  clear E C hO h57
  go_loopw [6] (fun v wr => ∃ k : Nat, v = .int .i64 k ∧ k ≤ O.length ∧ Hid (∀ y ∈ O.take k, inB l y = true) ∧ Below w1.heap.size w1 wr) (fun v _ => O.length - (intOf v).toNat)
  case atStart => exact ⟨0, rfl, Nat.zero_le _, Lib.hid (by simp), Below.refl _ _⟩
  case round =>
    obtain ⟨k, rfl, hk, hG, hB⟩ := hrel
    by_cases hlt : k < O.length
    · have g1 : decide ((k : Int) < (O.length : Int)) = true := by simp [hlt]
      have W1 : IntKind.i64.wrap ((k : Int) + 1) = ((k + 1 : Nat) : Int) := by rw [IntWalk.i64_in _ (by omega)]; omega
      have q3 : (0 : Int) ≤ (k : Int) := by omega
      have q4 : (k : Int) < (O.length : Int) := by omega
      obtain ⟨a, rfl, e0, e1, e2, e3, e4, e5⟩ := (hSO.on hB).at hlt
      have h := h58 O[k] (HK.out _ (List.getElem_mem hlt))
      have HT : Hid (inB l O[k] = true → ∀ y ∈ O.take (k + 1), inB l y = true) := Lib.hid (fun hc y hy => by
        rw [List.take_succ_eq_append_getElem hlt] at hy
        rcases List.mem_append.1 hy with hy | hy
        · exact hG.out y hy
        · rw [List.mem_singleton.1 hy]; exact hc)
      have HN : Hid (inB l O[k] = false → O.all (inB l) = false) := Lib.hid (fun hc => List.all_eq_false.2 ⟨_, List.getElem_mem hlt, by simp [hc]⟩)
      have hSl := hS.on (belows HSW hB)
      generalize O[k] = y at *
      cases hc : inB l y
      · rw [hc] at h
        have e : RES = false := by rw [HR.out]; exact HN.out hc
        subst e
        go_wp2_with (go_at_call 58; (with_reducible refine (h _ hSl).mono ?_); rintro X w2 ⟨rfl, hb1⟩)
        go_ret
        exact ⟨rfl, belows (belows HSW hB) hb1⟩
      · rw [hc] at h
        go_wp2_with (go_at_call 58; (with_reducible refine (h _ hSl).mono ?_); rintro X w2 ⟨rfl, hb1⟩)
        exact ⟨⟨k + 1, rfl, hlt, Lib.hid (HT.out hc), belows hB hb1⟩, by simp [intOf]; omega⟩
    · have g1 : decide ((k : Int) < (O.length : Int)) = false := by simp; omega
      have hg := hG.out
      rw [List.take_of_length_le (by omega)] at hg
      have e : RES = true := by rw [HR.out]; exact List.all_eq_true.2 hg
      subst e
      go_wp2
      go_ret
      exact ⟨rfl, belows HSW hB⟩
set_option maxHeartbeats 16000000 in
set_option maxRecDepth 100000 in
theorem covers_many (p : Option Addr) (l : List Bx) (cap : Nat) (b : Bx) (w : World) (hS : Sl w p l) (hm : manyB l.length = true) : Calls Try.prog 8 #[.slice p l.length cap, b.val] w fun e w' => e = .returned (.bool true) ∧ Below w.heap.size w w' := by
  have E := (Env.nil w).add w.heap.size 25 #[.int .i64 b.a, .int .i64 b.b, .int .i64 b.c, .int .i64 b.d, .int .i64 b.e, .int .i64 b.f] rfl
  have h10 := fun W => awake_any W
  have h26 := fun W => many_any p l.length cap W
  rw [hm] at h26
  clear hm
  have C := E.cells
  simp [BC, CF] at C
  unfold Bx.val at *
  go_enter Try.func8, Try.ntmps8
  go_wp2_with (first
    | (go_at_call 10; (with_reducible refine (h10 _).mono ?_); rintro X w10 ⟨rfl, hb⟩; replace E := E.on hb; replace C := E.cells; simp [BC, CF] at C; clear hb)
    | (go_at_call 26; (with_reducible refine (h26 _).mono ?_); rintro X w26 ⟨rfl, hb⟩; replace E := E.on hb; replace C := E.cells; simp [BC, CF] at C; clear hb))
  go_ret
  exact ⟨rfl, E.1⟩
set_option maxHeartbeats 16000000 in
set_option maxRecDepth 100000 in
theorem covers_bad (p : Option Addr) (l : List Bx) (cap : Nat) (b : Bx) (w : World) (hS : Sl w p l) (hm : manyB l.length = false) (ha : l.all Bx.ok = false) : Calls Try.prog 8 #[.slice p l.length cap, b.val] w fun e w' => e = .returned (.bool true) ∧ Below w.heap.size w w' := by
  have E := (Env.nil w).add w.heap.size 25 #[.int .i64 b.a, .int .i64 b.b, .int .i64 b.c, .int .i64 b.d, .int .i64 b.e, .int .i64 b.f] rfl
  have h10 := fun W => awake_any W
  have h26 := fun W => many_any p l.length cap W
  rw [hm] at h26
  have h32 := fun W hW => Covers_arg p l cap b W hW (.inr ha)
  have h27 := fun W hW => rall_any p l cap W hW
  rw [ha] at h27
  clear hm ha
  have C := E.cells
  simp [BC, CF] at C
  unfold Bx.val at *
  go_enter Try.func8, Try.ntmps8
  go_wp2_with (first
    | (go_at_call 10; (with_reducible refine (h10 _).mono ?_); rintro X w10 ⟨rfl, hb⟩; replace E := E.on hb; replace C := E.cells; simp [BC, CF] at C; clear hb)
    | (go_at_call 26; (with_reducible refine (h26 _).mono ?_); rintro X w26 ⟨rfl, hb⟩; replace E := E.on hb; replace C := E.cells; simp [BC, CF] at C; clear hb)
    | (go_at_call 32; (with_reducible refine (h32 _ (hS.on (envb E))).mono ?_); rintro X w32 ⟨rfl, hb⟩; replace E := E.on hb; replace C := E.cells; simp [BC, CF] at C; clear hb)
    | (go_at_call 27; (with_reducible refine (h27 _ (hS.on (envb E))).mono ?_); rintro X w27 ⟨rfl, hb⟩; replace E := E.on hb; replace C := E.cells; simp [BC, CF] at C; clear hb))
  go_ret
  exact ⟨rfl, E.1⟩
set_option maxHeartbeats 16000000 in
set_option maxRecDepth 100000 in
theorem covers_badb (p : Option Addr) (l : List Bx) (cap : Nat) (b : Bx) (w : World) (hS : Sl w p l) (hm : manyB l.length = false) (ha : l.all Bx.ok = true) (hb : b.ok = false) : Calls Try.prog 8 #[.slice p l.length cap, b.val] w fun e w' => e = .returned (.bool true) ∧ Below w.heap.size w w' := by
  have E := (Env.nil w).add w.heap.size 25 #[.int .i64 b.a, .int .i64 b.b, .int .i64 b.c, .int .i64 b.d, .int .i64 b.e, .int .i64 b.f] rfl
  have h10 := fun W => awake_any W
  have h26 := fun W => many_any p l.length cap W
  rw [hm] at h26
  have h32 := fun W hW => Covers_arg p l cap b W hW (.inl hb)
  have h27 := fun W hW => rall_any p l cap W hW
  rw [ha] at h27
  have h14 := fun W => rvalid_any b W
  rw [hb] at h14
  clear hm ha hb
  have C := E.cells
  simp [BC, CF] at C
  unfold Bx.val at *
  go_enter Try.func8, Try.ntmps8
  go_wp2_with (first
    | (go_at_call 10; (with_reducible refine (h10 _).mono ?_); rintro X w10 ⟨rfl, hb⟩; replace E := E.on hb; replace C := E.cells; simp [BC, CF] at C; clear hb)
    | (go_at_call 26; (with_reducible refine (h26 _).mono ?_); rintro X w26 ⟨rfl, hb⟩; replace E := E.on hb; replace C := E.cells; simp [BC, CF] at C; clear hb)
    | (go_at_call 32; (with_reducible refine (h32 _ (hS.on (envb E))).mono ?_); rintro X w32 ⟨rfl, hb⟩; replace E := E.on hb; replace C := E.cells; simp [BC, CF] at C; clear hb)
    | (go_at_call 27; (with_reducible refine (h27 _ (hS.on (envb E))).mono ?_); rintro X w27 ⟨rfl, hb⟩; replace E := E.on hb; replace C := E.cells; simp [BC, CF] at C; clear hb)
    | (go_at_call 14; (with_reducible refine (h14 _).mono ?_); rintro X w14 ⟨rfl, hb⟩; replace E := E.on hb; replace C := E.cells; simp [BC, CF] at C; clear hb))
  go_ret
  exact ⟨rfl, E.1⟩
set_option maxHeartbeats 16000000 in
set_option maxRecDepth 100000 in
theorem covers_full8 (p : Option Addr) (l : List Bx) (cap : Nat) (b : Bx) (w : World) (hS : Sl w p l) (hm : manyB l.length = false) (ha : l.all Bx.ok = true) (hb : b.ok = true) (h40 : 40 < l.length) : Calls Try.prog 8 #[.slice p l.length cap, b.val] w fun e w' => e = .returned (.bool true) ∧ Below w.heap.size w w' := by
  have E := (Env.nil w).add w.heap.size 25 #[.int .i64 b.a, .int .i64 b.b, .int .i64 b.c, .int .i64 b.d, .int .i64 b.e, .int .i64 b.f] rfl
  have h10 := fun W => awake_any W
  have h26 := fun W => many_any p l.length cap W
  rw [hm] at h26
  have h32 := fun W hW => Covers_full p l cap b W hW hb ha h40
  have h27 := fun W hW => rall_any p l cap W hW
  rw [ha] at h27
  have h14 := fun W => rvalid_any b W
  rw [hb] at h14
  have g40 : decide ((40 : Int) < (l.length : Int)) = true := decide_eq_true (by omega)
  clear hm ha hb h40
  have C := E.cells
  simp [BC, CF] at C
  unfold Bx.val at *
  go_enter Try.func8, Try.ntmps8
  go_wp2_with (first
    | (go_at_call 10; (with_reducible refine (h10 _).mono ?_); rintro X w10 ⟨rfl, hb⟩; replace E := E.on hb; replace C := E.cells; simp [BC, CF] at C; clear hb)
    | (go_at_call 26; (with_reducible refine (h26 _).mono ?_); rintro X w26 ⟨rfl, hb⟩; replace E := E.on hb; replace C := E.cells; simp [BC, CF] at C; clear hb)
    | (go_at_call 32; (with_reducible refine (h32 _ (hS.on (envb E))).mono ?_); rintro X w32 ⟨rfl, hb⟩; replace E := E.on hb; replace C := E.cells; simp [BC, CF] at C; clear hb)
    | (go_at_call 27; (with_reducible refine (h27 _ (hS.on (envb E))).mono ?_); rintro X w27 ⟨rfl, hb⟩; replace E := E.on hb; replace C := E.cells; simp [BC, CF] at C; clear hb)
    | (go_at_call 14; (with_reducible refine (h14 _).mono ?_); rintro X w14 ⟨rfl, hb⟩; replace E := E.on hb; replace C := E.cells; simp [BC, CF] at C; clear hb))
  go_ret
  exact ⟨rfl, E.1⟩
set_option maxHeartbeats 16000000 in
set_option maxRecDepth 100000 in
theorem covers_ok8 (p : Option Addr) (l : List Bx) (cap : Nat) (b : Bx) (w : World) (hS : Sl w p l) (hm : manyB l.length = false) (ha : l.all Bx.ok = true) (hb : b.ok = true) (h8 : l.length ≤ 8) : Calls Try.prog 8 #[.slice p l.length cap, b.val] w fun e w' => e = .returned (.bool true) ∧ Below w.heap.size w w' := by
  have E := (Env.nil w).add w.heap.size 25 #[.int .i64 b.a, .int .i64 b.b, .int .i64 b.c, .int .i64 b.d, .int .i64 b.e, .int .i64 b.f] rfl
  have h10 := fun W => awake_any W
  have h26 := fun W => many_any p l.length cap W
  rw [hm] at h26
  have h32 := fun W hW => Covers_ok p l cap b W hW hb ha (by omega)
  have h33 := fun W hW => rcovers_any p l cap b W hW h8 ha hb
  have h27 := fun W hW => rall_any p l cap W hW
  rw [ha] at h27
  have h14 := fun W => rvalid_any b W
  rw [hb] at h14
  have g40 : decide ((40 : Int) < (l.length : Int)) = false := decide_eq_false (by omega)
  clear hm ha hb h8
  generalize covB l b = RES at *
  have C := E.cells
  simp [BC, CF] at C
  unfold Bx.val at *
  go_enter Try.func8, Try.ntmps8
  go_wp2_with (first
    | (go_at_call 10; (with_reducible refine (h10 _).mono ?_); rintro X w10 ⟨rfl, hb⟩; replace E := E.on hb; replace C := E.cells; simp [BC, CF] at C; clear hb)
    | (go_at_call 26; (with_reducible refine (h26 _).mono ?_); rintro X w26 ⟨rfl, hb⟩; replace E := E.on hb; replace C := E.cells; simp [BC, CF] at C; clear hb)
    | (go_at_call 32; (with_reducible refine (h32 _ (hS.on (envb E))).mono ?_); rintro X w32 ⟨rfl, hb⟩; replace E := E.on hb; replace C := E.cells; simp [BC, CF] at C; clear hb)
    | (go_at_call 27; (with_reducible refine (h27 _ (hS.on (envb E))).mono ?_); rintro X w27 ⟨rfl, hb⟩; replace E := E.on hb; replace C := E.cells; simp [BC, CF] at C; clear hb)
    | (go_at_call 14; (with_reducible refine (h14 _).mono ?_); rintro X w14 ⟨rfl, hb⟩; replace E := E.on hb; replace C := E.cells; simp [BC, CF] at C; clear hb)
    | (go_at_call 33; (with_reducible refine (h33 _ (hS.on (envb E))).mono ?_); rintro X w33 ⟨rfl, hb⟩; replace E := E.on hb; replace C := E.cells; simp [BC, CF] at C; clear hb))
  go_ret
  exact ⟨by simp, E.1⟩
theorem covers_walk (p : Option Addr) (l : List Bx) (cap : Nat) (b : Bx) (w : World) (hS : Sl w p l) : Calls Try.prog 8 #[.slice p l.length cap, b.val] w fun e w' => e = .returned (.bool true) ∧ Below w.heap.size w w' := by
  cases hm : manyB l.length
  · cases ha : l.all Bx.ok
    · exact covers_bad p l cap b w hS hm ha
    · cases hb : b.ok
      · exact covers_badb p l cap b w hS hm ha hb
      · by_cases h8 : l.length ≤ 8
        · exact covers_ok8 p l cap b w hS hm ha hb h8
        · refine covers_full8 p l cap b w hS hm ha hb ?_
          unfold manyB at hm
          simp at hm
          omega
  · exact covers_many p l cap b w hS hm
end Go.Proofs.Ytffigpkkdljaiaa
