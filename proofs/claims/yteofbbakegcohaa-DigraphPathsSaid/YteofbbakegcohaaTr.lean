/- DigraphTurned: the walk. -/
import Derived.Test.YteofbbakegcohaaTq
import Derived.Test.YteofbbakegcohaaTp
namespace Go.Proofs.Yteofbbakegcohaa
open Go.ChangeShapes Go.WideShapes Go.ChangeAt Go.RowKit
set_option linter.unusedVariables false
set_option linter.unusedSimpArgs false

theorem trn_take (l : List (Int × Int)) {k : Nat} (h : k < l.length) : trnZ (l.take (k + 1)) = trnZ (l.take k) ++ [(l[k].2, l[k].1)] := by
  unfold trnZ
  rw [List.take_succ_eq_append_getElem h, List.map_append]
  rfl
theorem trn_i64 {l : List (Int × Int)} (h : ∀ x ∈ l, I64 x.1 ∧ I64 x.2) : ∀ x ∈ trnZ l, I64 x.1 ∧ I64 x.2 := by
  intro x hx
  unfold trnZ at hx
  obtain ⟨y, hy, rfl⟩ := List.mem_map.1 hx
  exact ⟨(h y hy).2, (h y hy).1⟩
set_option maxHeartbeats 8000000 in
set_option maxRecDepth 100000 in
theorem turned_early (p : Option Addr) (l : List (Int × Int)) (cap : Nat) (n : Int) (q : Option Addr) (os : List Int) (c : Nat) (w : World) (hS : Sl w p l) (h : lrg n l.length = true ∨ lrg n l.length = false ∧ 100 < os.length) : Calls Try.prog 9 #[.int .i64 n, .slice p l.length cap, .slice q os.length c] w fun e w' => e = .returned (.bool true) ∧ Below w.heap.size w w' := by
  have hLg := fun W => large_any p l cap n W hS.2.2.1
  rcases h with h | ⟨h, h2⟩
  · rw [h] at hLg
    clear h
    go_enter Try.func9, Try.ntmps9
    go_wp2_with (first
      | (go_at_call 10; (with_reducible refine (awake_any _).mono ?_); rintro e w1 ⟨rfl, b1⟩)
      | (go_at_call 11; (with_reducible refine (hLg _).mono ?_); rintro e w2 ⟨rfl, rfl⟩))
    go_ret
    exact ⟨rfl, b1⟩
  · rw [h] at hLg
    have g1 : decide ((100 : Int) < (os.length : Int)) = true := decide_eq_true (by omega)
    clear h h2
    go_enter Try.func9, Try.ntmps9
    go_wp2_with (first
      | (go_at_call 10; (with_reducible refine (awake_any _).mono ?_); rintro e w1 ⟨rfl, b1⟩)
      | (go_at_call 11; (with_reducible refine (hLg _).mono ?_); rintro e w2 ⟨rfl, rfl⟩))
    go_ret
    exact ⟨rfl, b1⟩
set_option maxHeartbeats 16000000 in
set_option maxRecDepth 100000 in
theorem turned_main (p : Option Addr) (l : List (Int × Int)) (cap : Nat) (n : Int) (q : Option Addr) (os : List Int) (c : Nat) (w : World) (hS : Sl w p l) (hO : Rdz w (.slice q os.length c) os) (hlg : lrg n l.length = false) (ho : os.length ≤ 100) (hl : l.length ≤ 1005)
    (ls : List (List Nat)) (hls : ls.length ≤ 100000) (hlx : ∀ xs ∈ ls, xs.length ≤ 100000) (ce oe S le : Int)
    (ha28 : ∀ W, Sl W p l → Calls Try.prog 28 #[.int .i64 n, .slice p l.length cap] W fun e w' => ∃ v, e = .returned (.tuple #[v, .int .i64 ce]) ∧ RdN w' v ls ∧ Below W.heap.size W w')
    (hb28 : ∀ u d, ∀ W, Sl W u (trnZ l) → Calls Try.prog 28 #[.int .i64 n, .slice u l.length d] W fun e w' => ∃ v, e = .returned (.tuple #[v, .int .i64 ce]) ∧ RdN w' v ls ∧ Below W.heap.size W w')
    (ha12 : ∀ W, Sl W p l → Calls Try.prog 12 #[.int .i64 n, .slice p l.length cap] W fun e w' => ∃ v, e = .returned (.tuple #[v, .int .i64 oe]) ∧ Below W.heap.size W w')
    (hb12 : ∀ u d, ∀ W, Sl W u (trnZ l) → Calls Try.prog 12 #[.int .i64 n, .slice u l.length d] W fun e w' => ∃ v, e = .returned (.tuple #[v, .int .i64 oe]) ∧ Below W.heap.size W w')
    (ha20 : ∀ W, Sl W p l → Rdz W (.slice q os.length c) os → Calls Try.prog 20 #[.int .i64 n, .slice p l.length cap, .slice q os.length c] W fun e w' => ∃ v, e = .returned (.tuple #[.int .i64 S, v, .int .i64 le]) ∧ Below W.heap.size W w')
    (hb20 : ∀ u d, ∀ W, Sl W u (trnZ l) → Rdz W (.slice q os.length c) os → Calls Try.prog 20 #[.int .i64 n, .slice u l.length d, .slice q os.length c] W fun e w' => ∃ v, e = .returned (.tuple #[.int .i64 S, v, .int .i64 le]) ∧ Below W.heap.size W w') :
    Calls Try.prog 9 #[.int .i64 n, .slice p l.length cap, .slice q os.length c] w fun e w' => e = .returned (.bool true) ∧ Below w.heap.size w w' := by
  obtain ⟨i0, hi, hz0, hz1, hz2⟩ := info_parts info42
  have hLg := fun W => large_any p l cap n W hS.2.2.1
  rw [hlg] at hLg
  have g1 : decide ((100 : Int) < (os.length : Int)) = false := decide_eq_false (by omega)
  have H6 := Lib.hid hS.2.2.2
  clear hlg
  go_enter Try.func9, Try.ntmps9
  go_wp2_with (first
    | (go_at_call 10; (with_reducible refine (awake_any _).mono ?_); rintro e w1 ⟨rfl, b1⟩)
    | (go_at_call 11; (with_reducible refine (hLg _).mono ?_); rintro e w2 ⟨rfl, rfl⟩))
  have hS1 := hS.on b1
  have hO1 := hO.on b1
  go_loopw [7, 36] (fun v7 v36 wr => ∃ k : Nat, v36 = .int .i64 k ∧ k ≤ l.length ∧ OwnP w1.heap.size wr v7 (trnZ (l.take k)) ∧ Below w1.heap.size w1 wr) (fun _ v _ => l.length - (intOf v).toNat)
  case atStart => exact ⟨0, rfl, Nat.zero_le _, ⟨by simp [trnZ], .inl ⟨rfl, by simp [trnZ]⟩⟩, Below.refl _ _⟩
  case round =>
    obtain ⟨k, rfl, hk, hP, hB⟩ := hrel
    by_cases hlt : k < l.length
    · have g2 : decide ((k : Int) < (l.length : Int)) = true := by simp [hlt]
      have W1 : IntKind.i64.wrap ((k : Int) + 1) = ((k + 1 : Nat) : Int) := by rw [IntWalk.i64_in _ (by omega)]; omega
      have q1 : (0 : Int) ≤ (k : Int) := by omega
      have q2 : (k : Int) < (l.length : Int) := by omega
      obtain ⟨a, rfl, d0, d1⟩ := (hS1.on hB).at hlt
      have HT := Lib.hid (trn_take l hlt)
      have hN := Has.new_ wr 42 #[.int .i64 l[k].1, .int .i64 l[k].2]
      have n0 := hN.read 0
      have n1 := hN.read 1
      simp at n0 n1
      have hlen : (trnZ (l.take k)).length ≤ 1005 := by rw [trnZ_len, List.length_take]; omega
      generalize trnZ (l.take k) = O at *
      have hsz := hB.size
      have NW : ((wr.alloc (.cells #[.int .i64 l[k].1, .int .i64 l[k].2] 42)).alloc (.cells #[.int .i64 l[k].2, .int .i64 l[k].1] 42)).heap[wr.heap.size + 1]? = some (.cells #[.int .i64 l[k].2, .int .i64 l[k].1] 42 (0, 0)) := by
        have h := heap_alloc_new (wr.alloc (.cells #[.int .i64 l[k].1, .int .i64 l[k].2] 42)) (.cells #[.int .i64 l[k].2, .int .i64 l[k].1] 42)
        rwa [show (wr.alloc (.cells #[.int .i64 l[k].1, .int .i64 l[k].2] 42)).heap.size = wr.heap.size + 1 by first | exact Array.size_push _ | exact heap_alloc_size _ _ | (unfold World.alloc; simp only [Array.size_push]) | simp only [World.alloc_eq, Array.size_push]] at h
      replace NW := Lib.hid NW
      go_wp2_with (at_builtin; refine wpList_append_own_at _ rfl _ _ 22 rfl w1.heap.size 42 i0 _ 2 16 Try.underlying22 hi hz0 hz1 hz2 rfl (by decide) _ O.length (O.flatMap cp) rfl (own_on hP (al (al1 wr (.cells #[.int .i64 l[k].1, .int .i64 l[k].2] 42)) (.cells #[.int .i64 l[k].2, .int .i64 l[k].1] 42))) ⟨wr.heap.size + 1, 0, none⟩ 1 1 [.int .i64 l[k].2, .int .i64 l[k].1] rfl rfl (World.news_of_block (cs := #[.int .i64 l[k].2, .int .i64 l[k].1]) (t := 42) (fr := (0, 0)) NW.out) (by simp [Value.oneCell']) (by unfold maxLen; omega) (by omega) (Nat.le_trans hsz (al (al1 wr (.cells #[.int .i64 l[k].1, .int .i64 l[k].2] 42)) (.cells #[.int .i64 l[k].2, .int .i64 l[k].1] 42)).size) ?_)
      intro v' w5 p1 p2 p3 p4
      have ob := al (al1 wr (.cells #[.int .i64 l[k].1, .int .i64 l[k].2] 42)) (.cells #[.int .i64 l[k].2, .int .i64 l[k].1] 42)
      have P5 : OwnP w1.heap.size w5 v' (O ++ [(l[k].2, l[k].1)]) := by
        unfold OwnP
        rw [List.length_append, List.flatMap_append]
        simpa [cp] using p1
      have B5 : Below w1.heap.size w1 w5 := (hB.trans (ob.mono hsz)).grown p2 (by have := ob.size; omega) (fun j hj => (World.ownsRow.lt hP _ hj).1)
      clear p1 p2 p3 p4 ob hP
      go_wp2
      go_roundw
      · exact ⟨k + 1, rfl, hlt, by rw [HT.out]; exact P5, B5⟩
      · simp [intOf]; omega
    · have g2 : decide ((k : Int) < (l.length : Int)) = false := by simp; omega
      have e : l.take k = l := List.take_of_length_le (by omega)
      rw [e] at hP
      obtain ⟨u, d, rfl, hU⟩ := hP.sl (by rw [trnZ_len]; omega) (trn_i64 H6.out)
      rw [trnZ_len]
      have hSa := hS1.on hB
      have hOa := hO1.on hB
      have B := belows b1 hB
      clear hP e
      go_wp2_with (first
        | (go_at_call 28; (with_reducible refine (ha28 _ hSa).mono ?_); rintro e w2 ⟨va, rfl, hNa, hb⟩; replace hSa := hSa.on hb; replace hOa := hOa.on hb; replace hU := hU.on hb; replace B := belows B hb; clear hb ha28)
        | (go_at_call 28; (with_reducible refine (hb28 _ _ _ hU).mono ?_); rintro e w3 ⟨vb, rfl, hNb, hb⟩; replace hSa := hSa.on hb; replace hOa := hOa.on hb; replace hU := hU.on hb; replace hNa := hNa.on hb; replace B := belows B hb; clear hb)
        | (go_at_call 12; (with_reducible refine (ha12 _ hSa).mono ?_); rintro e w4 ⟨vc, rfl, hb⟩; replace hSa := hSa.on hb; replace hOa := hOa.on hb; replace hU := hU.on hb; replace hNa := hNa.on hb; replace hNb := hNb.on hb; replace B := belows B hb; clear hb ha12)
        | (go_at_call 12; (with_reducible refine (hb12 _ _ _ hU).mono ?_); rintro e w5 ⟨vd, rfl, hb⟩; replace hSa := hSa.on hb; replace hOa := hOa.on hb; replace hU := hU.on hb; replace hNa := hNa.on hb; replace hNb := hNb.on hb; replace B := belows B hb; clear hb)
        | (go_at_call 20; (with_reducible refine (ha20 _ hSa hOa).mono ?_); rintro e w6 ⟨ve, rfl, hb⟩; replace hSa := hSa.on hb; replace hOa := hOa.on hb; replace hU := hU.on hb; replace hNa := hNa.on hb; replace hNb := hNb.on hb; replace B := belows B hb; clear hb ha20)
        | (go_at_call 20; (with_reducible refine (hb20 _ _ _ hU hOa).mono ?_); rintro e w7 ⟨vf, rfl, hb⟩; replace hNa := hNa.on hb; replace hNb := hNb.on hb; replace B := belows B hb; clear hb)
        | (go_at_call 37; (with_reducible refine (eqf_any va vb ls _ hNa hNb hls hlx).mono ?_); rintro e w8 ⟨rfl, hb⟩; replace B := belows B hb; clear hb))
      go_ret
      exact ⟨by simp, B⟩
theorem turned_walk (p : Option Addr) (l : List (Int × Int)) (cap : Nat) (n : Int) (o : Value) (os : List Int) (w : World) (hS : Sl w p l) (hO : Rdz w o os) :
    Calls Try.prog 9 #[.int .i64 n, .slice p l.length cap, o] w fun e w' => e = .returned (.bool true) ∧ Below w.heap.size w w' := by
  obtain ⟨q, c, rfl, -⟩ := id hO
  cases hlg : lrg n l.length
  case true => exact turned_early p l cap n q os c w hS (.inl hlg)
  case false =>
  by_cases ho : 100 < os.length
  · exact turned_early p l cap n q os c w hS (.inr ⟨hlg, ho⟩)
  have hl : l.length ≤ 1005 := by
    unfold lrg at hlg
    simp at hlg
    omega
  cases hv : vG n l
  · have hv' : vG n (trnZ l) = false := by rw [vG_trn]; exact hv
    refine turned_main p l cap n q os c w hS hO hlg (by omega) hl [] (by simp) (by simp) 1 1 0 1 (fun W h => ?_) (fun u d W h => ?_) (fun W h => ?_) (fun u d W h => ?_) (fun W h h2 => ?_) (fun u d W h h2 => ?_)
    · exact (parts_no p n l cap W h hv).mono fun e w' k => ⟨_, k.1, RdN.nil _, k.2⟩
    · have k := parts_no u n (trnZ l) d W h hv'
      rw [trnZ_len] at k
      exact k.mono fun e w' k => ⟨_, k.1, RdN.nil _, k.2⟩
    · exact (order_no p n l cap W h hv).mono fun e w' k => ⟨_, k.1, k.2⟩
    · have k := order_no u n (trnZ l) d W h hv'
      rw [trnZ_len] at k
      exact k.mono fun e w' k => ⟨_, k.1, k.2⟩
    · exact (lon_no p n l cap W _ h hv).mono fun e w' k => ⟨_, k.1, k.2⟩
    · have k := lon_no u n (trnZ l) d W (.slice q os.length c) h hv'
      rw [trnZ_len] at k
      exact k.mono fun e w' k => ⟨_, k.1, k.2⟩
  · obtain ⟨m, k, rfl, rfl, hlk, hG⟩ := gr_of_valid hS hv
    have hx := hG.2.2.2
    obtain ⟨ls, hp⟩ : ∃ ls, Pso m (adj k) ls := ⟨_, pso_ex m (adj k)⟩
    have hcl := pso_cls (adj_lt hx) hp
    have gr1 : ∀ W u, Sl W u (cast2 k) → Gr W u m k := fun W u h => ⟨h, hG.2.1, hG.2.2.1, hx⟩
    have gr2 : ∀ W u, Sl W u (trnZ (cast2 k)) → Gr W u m (trnN k) := fun W u h => ⟨by rw [← trn_cast]; exact h, by simpa [trnN] using hG.2.1, hG.2.2.1, fun x hx' => by
      unfold trnN at hx'
      obtain ⟨y, hy, rfl⟩ := List.mem_map.1 hx'
      exact ⟨(hx y hy).2, (hx y hy).1⟩⟩
    have lk : (trnN k).length = k.length := by simp [trnN]
    have pu : ∀ ms, Pso m (adj k) ms → ms = ls := fun ms h => by
      obtain ⟨zs, hz⟩ : ∃ zs, Pso m (adj (trnN k)) zs := ⟨_, pso_ex m (adj (trnN k))⟩
      rw [parts_trn hx h hz, parts_trn hx hp hz]
    have pv : ∀ ms, Pso m (adj (trnN k)) ms → ms = ls := fun ms h => (parts_trn hx hp h).symm
    have hlens : ls.length ≤ 100000 ∧ ∀ xs ∈ ls, xs.length ≤ 100000 := by
      have hm := hG.2.2.1
      refine ⟨?_, fun xs hxs => ?_⟩
      · have := cls_len hcl.1 hcl.2; omega
      · have := nodup_le m xs (hcl.1.p1 xs hxs).1 (hcl.2 xs hxs); omega
    have lc : (cast2 k).length = k.length := cast2_len k
    obtain ⟨oe, ha, hb⟩ : ∃ oe : Int, (∀ W u d, Gr W u m k → Calls Try.prog 12 #[.int .i64 m, .slice u k.length d] W fun e w' => ∃ v, e = .returned (.tuple #[v, .int .i64 oe]) ∧ Below W.heap.size W w') ∧
        (∀ W u d, Gr W u m (trnN k) → Calls Try.prog 12 #[.int .i64 m, .slice u (trnN k).length d] W fun e w' => ∃ v, e = .returned (.tuple #[v, .int .i64 oe]) ∧ Below W.heap.size W w') := by
      cases hE : ordr (adj k) m m [] with
      | none =>
        exact ⟨23, fun W u d h => (order_loop u m k d W h hE).mono fun e w' k => ⟨_, k.1, k.2⟩, fun W u d h => (order_loop u m (trnN k) d W h ((order_trn hx).2 hE)).mono fun e w' k => ⟨_, k.1, k.2⟩⟩
      | some E =>
        obtain ⟨E', hE'⟩ : ∃ E', ordr (adj (trnN k)) m m [] = some E' := by
          cases hc : ordr (adj (trnN k)) m m [] with
          | none => rw [(order_trn hx).1 hc] at hE; cases hE
          | some E' => exact ⟨E', rfl⟩
        exact ⟨0, fun W u d h => (order_yes u m k d W h E hE).mono fun e w' ⟨v, k, _, k2⟩ => ⟨v, k, k2⟩, fun W u d h => (order_yes u m (trnN k) d W h E' hE').mono fun e w' ⟨v, k, _, k2⟩ => ⟨v, k, k2⟩⟩
    obtain ⟨S, le, hc, hd⟩ : ∃ S le : Int, (∀ W u d, Gr W u m k → Rdz W (.slice q os.length c) os → Calls Try.prog 20 #[.int .i64 m, .slice u k.length d, .slice q os.length c] W fun e w' => ∃ v, e = .returned (.tuple #[.int .i64 S, v, .int .i64 le]) ∧ Below W.heap.size W w') ∧
        (∀ W u d, Gr W u m (trnN k) → Rdz W (.slice q os.length c) os → Calls Try.prog 20 #[.int .i64 m, .slice u (trnN k).length d, .slice q os.length c] W fun e w' => ∃ v, e = .returned (.tuple #[.int .i64 S, v, .int .i64 le]) ∧ Below W.heap.size W w') := by
      by_cases hz : lgE k m os = 0
      · have hz' : lgE (trnN k) m os = 0 := by rw [lgE_trn hx]; exact hz
        refine ⟨(lgA k m os).1, 0, fun W u d h h2 => (lon_ok u m k d W _ os h h2 (by omega) hz).mono fun e w' ⟨v, k, _, k2⟩ => ⟨v, k, k2⟩, fun W u d h h2 => ?_⟩
        have r := lon_ok u m (trnN k) d W _ os h h2 (by omega) hz'
        rw [lgA_trn hx os hz] at r
        exact r.mono fun e w' ⟨v, k, _, k2⟩ => ⟨v, k, k2⟩
      · have hz' : lgE (trnN k) m os ≠ 0 := by rw [lgE_trn hx]; exact hz
        refine ⟨0, lgE k m os, fun W u d h h2 => (lon_err u m k d W _ os h h2 (by omega) hz).mono fun e w' k => ⟨_, k.1, k.2⟩, fun W u d h h2 => ?_⟩
        have r := lon_err u m (trnN k) d W _ os h h2 (by omega) hz'
        rw [lgE_trn hx] at r
        exact r.mono fun e w' k => ⟨_, k.1, k.2⟩
    rw [lk] at hb hd
    refine turned_main p (cast2 k) cap m q os c w hS hO hlg (by omega) hl ls hlens.1 hlens.2 0 oe S le (fun W h => ?_) (fun u d W h => ?_) (fun W h => ?_) (fun u d W h => ?_) (fun W h h2 => ?_) (fun u d W h h2 => ?_)
    · rw [lc]
      refine (parts_ok p m k cap W (gr1 W p h)).mono ?_
      rintro e w' ⟨v, ms, rfl, hN, hps, hbb⟩
      obtain rfl := pu ms hps
      exact ⟨v, rfl, hN.rdn, hbb⟩
    · rw [lc, ← lk]
      refine (parts_ok u m (trnN k) d W (gr2 W u h)).mono ?_
      rintro e w' ⟨v, ms, rfl, hN, hps, hbb⟩
      obtain rfl := pv ms hps
      exact ⟨v, rfl, hN.rdn, hbb⟩
    · rw [lc]; exact ha W p cap (gr1 W p h)
    · rw [lc]; exact hb W u d (gr2 W u h)
    · rw [lc]; exact hc W p cap (gr1 W p h) h2
    · rw [lc]; exact hd W u d (gr2 W u h) h2
end Go.Proofs.Yteofbbakegcohaa
