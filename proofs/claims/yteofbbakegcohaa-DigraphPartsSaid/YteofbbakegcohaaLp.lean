/- The longest path: the program's Longest. -/
import Derived.Test.YteofbbakegcohaaLo
namespace Go.Proofs.Yteofbbakegcohaa
open Go.ChangeShapes Go.WideShapes Go.ChangeAt Go.RowKit
set_option linter.unusedVariables false
set_option linter.unusedSimpArgs false


theorem prow_made {w : World} {B g n : Nat} (h : w.ownsRow B 71 1 (.slice (some ⟨g, 0, none⟩) n n) n (madeCells #[Value.pointer none] n).toList) : PRow w g n (fun _ => none) := by
  have k := has_full h
  unfold PRow
  have e : (madeCells #[Value.pointer none] n).toList = (List.range n).map fun _ => pv none := by
    rw [toList_madeCells_one]
    apply List.ext_getElem <;> simp [pv]
  rw [e] at k; exact k
set_option maxRecDepth 100000 in
set_option maxHeartbeats 4000000 in
theorem longest_any (G n : Nat) (q : Option Addr) (cap : Nat) (W : Nat → Int) (A : Nat → List Nat) (rk : Nat → Nat) (w : World) (hn0 : 0 < n) (hG : Gm w G n A) (hws : ∀ v, v < n → ∃ a, q = some a ∧ w.cell? (a.add v) = some (.int .i64 (W v))) (hwb : ∀ v, 0 ≤ W v ∧ W v ≤ 1073741824) (hr : Rnk A n rk) :
    Calls Try.prog 50 #[.slice (some ⟨G, 0, none⟩) n n, .slice q n cap] w fun e w' => ∃ bp b, e = .returned (.pointer (some ⟨b, 0, none⟩)) ∧ bp (amx (lgS A W n) n) = some b ∧ Pm w' (lgS A W n) (lgN A W n) bp ∧ Below w.heap.size w w' := by
  have hn := hG.sz
  obtain ⟨i0, hi, hz0, hz1, hz2⟩ := info_parts info71
  have HW := Lib.hid hws
  clear hws
  go_enter Try.func50, Try.ntmps50
  go_wp2_with (at_make; refine wpList_make_full _ rfl _ _ 88 rfl w.heap.size 71 i0 _ 1 Try.underlying88 hi hz0 hz1 _ _ _ _ n rfl rfl rfl rfl (by rw [hz2]; omega) (by unfold maxLen; omega) (by simp; omega) ?_)
  intro w1 hown hgrow
  have a1 := al1 w (.cells #[.slice (some ⟨G, 0, none⟩) n n] 66)
  have HGB := (Has.new_ w 66 #[.slice (some ⟨G, 0, none⟩) n n]).on (al1 _ (.cells #[.slice q n cap] 23))
  have HWB := Has.new_ (w.alloc (.cells #[.slice (some ⟨G, 0, none⟩) n n] 66)) 23 #[.slice q n cap]
  have k1 := below_grown (Below.refl _ ((w.alloc (.cells #[.slice (some ⟨G, 0, none⟩) n n] 66)).alloc (.cells #[.slice q n cap] 23))) hgrow (Nat.le_refl _)
  have bw1 := belows (al a1 (.cells #[.slice q n cap] 23)) k1
  have HGB1 := HGB.on k1
  have HWB1 := HWB.on k1
  obtain ⟨R, hRe⟩ : ∃ R, R = w.heap.size + 1 + 1 := ⟨_, rfl⟩
  have e2 : ((w.alloc (.cells #[.slice (some ⟨G, 0, none⟩) n n] 66)).alloc (.cells #[.slice q n cap] 23)).heap.size = R := by rw [hRe]; simp
  have e1 : (w.alloc (.cells #[.slice (some ⟨G, 0, none⟩) n n] 66)).heap.size = w.heap.size + 1 := by simp
  rw [← hRe] at hown
  rw [e1] at HWB1
  have hR0 := prow_made hown
  have hRs := hR0.size_
  rw [← hRe]
  have hR1 : R = w.heap.size + 2 := by omega
  have hPs : R < w1.heap.size := hRs
  have o1 := al1 w1 (.cells #[.slice (some ⟨R, 0, none⟩) n n] 88)
  have HPB := Has.new_ w1 88 #[.slice (some ⟨R, 0, none⟩) n n]
  have o2 := al1 (w1.alloc (.cells #[.slice (some ⟨R, 0, none⟩) n n] 88)) (.cells #[.func (.func 63) #[] (Lc.vals ⟨w1.heap.size, R, w.heap.size + 1, w.heap.size, w1.heap.size + 1, w.heap.size, G⟩)] 89)
  have HFB := Has.new_ (w1.alloc (.cells #[.slice (some ⟨R, 0, none⟩) n n] 88)) 89 #[.func (.func 63) #[] (Lc.vals ⟨w1.heap.size, R, w.heap.size + 1, w.heap.size, w1.heap.size + 1, w.heap.size, G⟩)]
  have e3 : (w1.alloc (.cells #[.slice (some ⟨R, 0, none⟩) n n] 88)).heap.size = w1.heap.size + 1 := by simp
  rw [e3] at HFB
  have o12 := belows o1 o2
  have X : Lx ⟨w1.heap.size, R, w.heap.size + 1, w.heap.size, w1.heap.size + 1, w.heap.size, G⟩ := ⟨by simp only; omega, by simp only; omega, by simp only; omega, by simp only; omega, by simp only; omega⟩
  have L0 : Li ⟨w1.heap.size, R, w.heap.size + 1, w.heap.size, w1.heap.size + 1, w.heap.size, G⟩ w ((w1.alloc (.cells #[.slice (some ⟨R, 0, none⟩) n n] 88)).alloc (.cells #[.func (.func 63) #[] (Lc.vals ⟨w1.heap.size, R, w.heap.size + 1, w.heap.size, w1.heap.size + 1, w.heap.size, G⟩)] 89)) n (.slice q n cap) (lgS A W n) (lgN A W n) (fun _ => none) :=
    ⟨Has.on HPB o2, HWB1.on o12, HGB1.on o12, HFB, Has.on hR0 o12, (fun v b h => by cases h), belows bw1 o12⟩
  have cg := L0.gb.read 0
  unfold Lc.vals at L0 cg
  have hF := fun k v bp W' => from_any ⟨w1.heap.size, R, w.heap.size + 1, w.heap.size, w1.heap.size + 1, w.heap.size, G⟩ w n q cap W A rk X hG rfl HW.out hwb hr k v bp W'
  have HL := Lib.hid L0
  have HX := Lib.hid X
  have HRE := Lib.hid hRe
  clear hown hgrow a1 HGB HWB k1 e2 e1 HGB1 HWB1 hR0 hRe L0 o1 o2 o12 HPB HFB e3 bw1 X hR1 hPs hRs
  go_wp2
  generalize (w1.alloc (.cells #[.slice (some ⟨R, 0, none⟩) n n] 88)).alloc (.cells #[.func (.func 63) #[] #[.pointer (some ⟨w1.heap.size, 0, none⟩), .pointer (some ⟨w.heap.size + 1, 0, none⟩), .pointer (some ⟨w.heap.size, 0, none⟩), .pointer (some ⟨w1.heap.size + 1, 0, none⟩)]] 89) = wf at *
  go_loopw [14] (fun v wr => ∃ (k : Nat) (bp : Nat → Option Nat), v = .int .i64 k ∧ k ≤ n ∧ Hid (Li ⟨w1.heap.size, R, w.heap.size + 1, w.heap.size, w1.heap.size + 1, w.heap.size, G⟩ w wr n (.slice q n cap) (lgS A W n) (lgN A W n) bp) ∧ Hid (∀ v, v < k → ∃ b, bp v = some b)) (fun v _ => n - (intOf v).toNat)
  case atStart => exact ⟨0, _, rfl, Nat.zero_le _, HL, Lib.hid (fun v h => absurd h (Nat.not_lt_zero v))⟩
  case round =>
    clear HL cg
    obtain ⟨k, bp, rfl, hk, HL, HK⟩ := hrel
    by_cases hlt : k < n
    · have g1 : decide ((k : Int) < (n : Int)) = true := by simp [hlt]
      have W1 : IntKind.i64.wrap ((k : Int) + 1) = ((k + 1 : Nat) : Int) := by rw [IntWalk.i64_in _ (by omega)]; omega
      have cF := HL.out.fb.read 0
      unfold Lc.vals at cF
      have hC := hF (n + 1) k bp wr (Nat.lt_succ_of_le (hr.2 k)) hlt HL.out
      go_wp2_with (go_at_call 63; (with_reducible refine hC.mono ?_); rintro e w5 ⟨bp2, bx, rfl, hx, hI5, hm5, hn5, hg5⟩)
      refine ⟨⟨k + 1, bp2, rfl, hlt, Lib.hid hI5, Lib.hid fun v hv => ?_⟩, by simp [intOf]; omega⟩
      rcases Nat.lt_or_ge v k with h1 | h1
      · obtain ⟨b, e⟩ := HK.out v h1
        exact ⟨b, hm5 v b e⟩
      · have : v = k := by omega
        subst this
        exact ⟨bx, hx⟩
    · have g1 : decide ((k : Int) < (n : Int)) = false := by simp; omega
      have cP := HL.out.pb.read 0
      have hPm : Pm wr (lgS A W n) (lgN A W n) bp := fun v b e => (HL.out.kn v b e).2
      have HPM := Lib.hid hPm
      have hC := max_any R n (lgS A W n) (lgN A W n) bp wr hn0 hn HL.out.row hPm (fun v hv => HK.out v (by omega))
      clear hPm
      go_wp2_with (go_at_call 64; (with_reducible refine hC.mono ?_); rintro e w5 ⟨bm, rfl, hx, hb5⟩)
      go_ret
      exact ⟨bp, bm, rfl, hx, HPM.out.on hb5, HL.out.be.trans (hb5.mono HL.out.be.size)⟩
/-- Reads a path out. -/
theorem chn_len (Nx : Nat → Option Nat) : ∀ k v, (chn Nx k v).length ≤ k
  | 0, v => by simp [chn]
  | k + 1, v => by
    unfold chn
    cases h : Nx v with
    | none => simp
    | some u => have := chn_len Nx k u; simp; omega
/-- Nothing is left of a path, or the rest from a node on. -/
def rem (Nx : Nat → Option Nat) (k : Nat) (o : Option Nat) : List Nat := match o with | none => [] | some v => chn Nx k v
theorem rem_next (Nx : Nat → Option Nat) (k v : Nat) : rem Nx (k + 1) (some v) = v :: rem Nx k (Nx v) := by
  unfold rem
  cases h : Nx v <;> simp [chn, h]
set_option maxRecDepth 100000 in
set_option maxHeartbeats 4000000 in
theorem nodes_any (n : Nat) (A : Nat → List Nat) (W : Nat → Int) (rk : Nat → Nat) (bp : Nat → Option Nat) (v b : Nat) (w : World) (hn : n ≤ 60) (hA : ∀ v, v < n → ∀ u ∈ A v, u < n) (hr : Rnk A n rk) (hv : v < n) (h : Pm w (lgS A W n) (lgN A W n) bp) (hb : bp v = some b) :
    Calls Try.prog 51 #[.pointer (some ⟨b, 0, none⟩)] w fun e w' => ∃ u, e = .returned u ∧ Own w.heap.size w' u (chn (lgN A W n) (n + 1) v) ∧ Below w.heap.size w w' := by
  obtain ⟨i0, hi, hz0, hz1, hz2⟩ := info_parts info3
  obtain ⟨L, hL⟩ : ∃ L, L = chn (lgN A W n) (n + 1) v := ⟨_, rfl⟩
  rw [← hL]
  have H0 : Hid (L = [] ++ rem (lgN A W n) (n + 1) (some v)) := Lib.hid hL
  have HP := Lib.hid h
  have hrst : rst bp (some v) = .pointer (some ⟨b, 0, none⟩) := by unfold rst; simp only [hb]; rfl
  have HRS : Hid (Value.pointer (some ⟨b, 0, none⟩) = rst bp (some v)) := Lib.hid hrst.symm
  have HK0 : Hid (∀ u, some v = some u → u < n ∧ rk u < n + 1 ∧ ∃ d, bp u = some d) := Lib.hid fun u e => by
    simp only [Option.some.injEq] at e
    subst e
    exact ⟨hv, Nat.lt_succ_of_le (hr.2 v), b, hb⟩
  have O0 : Own w.heap.size w (.slice none 0 0) [] := World.ownsRow_nil _ _ _ _
  clear h hb hrst hL hv
  go_enter Try.func51, Try.ntmps51
  go_wp2
  go_loopg [0, 3] (n + 1) (fun kk v0 v3 wr => ∃ (o : Option Nat) (xs : List Nat), Hid (v0 = rst bp o) ∧ Hid (L = xs ++ rem (lgN A W n) kk o) ∧ Hid (∀ u, o = some u → u < n ∧ rk u < kk ∧ ∃ d, bp u = some d) ∧ xs.length + kk ≤ n + 1 ∧ Own w.heap.size wr v3 xs ∧ Below w.heap.size w wr)
  case atStart => exact ⟨some v, [], HRS, H0, HK0, by simp, O0, Below.refl _ _⟩
  case round =>
    clear HRS H0 HK0 O0
    obtain ⟨o, xs, h0, hL, hK, hx, hO, hB⟩ := hrel
    cases o with
    | none =>
      have e0 : u0 = .pointer none := h0.out
      subst e0
      have HL : Hid (L = xs) := Lib.hid (by have := hL.out; simpa [rem] using this)
      clear hL hK h0
      go_wp2
      go_ret
      exact ⟨_, rfl, by rw [HL.out]; exact hO, hB⟩
    | some x =>
      obtain ⟨hxn, hxr, d, hd⟩ := hK.out x rfl
      have e0 : u0 = .pointer (some ⟨d, 0, none⟩) := by
        rw [h0.out]; unfold rst; simp only [hd]; rfl
      subst e0
      obtain ⟨g', hg'⟩ : ∃ g', gk = g' + 1 := ⟨gk - 1, by omega⟩
      have hdw : d < w.heap.size := (HP.out x d hd).1.size_
      obtain ⟨hD, hN⟩ := HP.out.on hB x d hd
      have HL : Hid (L = (xs ++ [x]) ++ rem (lgN A W n) g' (lgN A W n x)) := Lib.hid (by rw [hL.out, hg', rem_next]; simp)
      have HK2 : Hid (∀ u, lgN A W n x = some u → u < n ∧ rk u < g' ∧ ∃ d, bp u = some d) := Lib.hid fun u hu => by
        have hm := (lgN_mem W hA hr hxn hu).1
        have h2 := hr.1 x hxn u hm
        exact ⟨hA x hxn u hm, by omega, hN u hu⟩
      have hxl : xs.length ≤ 61 := by omega
      have hm1 : g' < gk := by omega
      have hm2 : (xs ++ [x]).length + g' ≤ n + 1 := by rw [List.length_append]; simp; omega
      have HM := Lib.hid (And.intro hm1 hm2)
      obtain ⟨pn, hpn⟩ : ∃ p, p = rst bp (lgN A W n x) := ⟨_, rfl⟩
      rw [← hpn] at hD
      have HPN := Lib.hid hpn
      have c0 := hD.read 0
      clear hpn hL hK h0 hd hN hg' hm1 hm2 hx
      go_wp2_with (at_builtin; refine wpList_append_own_at _ rfl _ _ 23 rfl w.heap.size 3 i0 _ 1 8 Try.underlying23 hi hz0 hz1 hz2 rfl (by decide) _ xs.length (ints xs) rfl (own_on hO (al1 _ _)) ⟨_, 0, none⟩ 1 1 [.int .i64 (x : Int)] rfl rfl (cell_one_new _ _ _) (by simp [Value.oneCell']) (by unfold maxLen; omega) (by omega) (Nat.le_trans hB.size (al1 _ _).size) ?_)
      intro v' w3 o1 o2 o3 o4
      have ob := al1 wr (.cells #[.int .i64 (x : Int)] 3)
      have hD3 := Has.grown_ (Has.on hD ob) o2 (fun e => by have := (hO.lt _ e.symm).1; omega)
      have c2 := hD3.read 2
      have O3 : Own w.heap.size w3 v' (xs ++ [x]) := by
        unfold Own
        rw [ints_app, List.length_append]
        exact o1
      have hB3 : Below w.heap.size w w3 := (hB.trans (ob.mono hB.size)).grown o2 (by have := ob.size; have := hB.size; omega) (fun j hj => (hO.lt _ hj).1)
      clear o1 o2 o3 o4 ob hD hD3 c0
      go_wp2
      go_roundg g'
      case measure => exact HM.out.1
      case rel => exact ⟨lgN A W n x, xs ++ [x], HPN, HL, HK2, HM.out.2, O3, hB3⟩
/-- The weight of each node. -/
def wtf (ws : List Int) (v : Nat) : Int := ws.getD v 0
theorem rdz_wt {w : World} {q : Option Addr} {n cap : Nat} {ws : List Int} (h : Rdz w (.slice q n cap) ws) (hl : ws.length = n) : ∀ v, v < n → ∃ a, q = some a ∧ w.cell? (a.add v) = some (.int .i64 (wtf ws v)) := by
  obtain ⟨q', c', e, k⟩ := h
  simp only [Value.slice.injEq] at e
  obtain ⟨rfl, -, rfl⟩ := e
  intro v hv
  obtain ⟨a, e, hc⟩ := k v (by omega)
  refine ⟨a, e, ?_⟩
  rw [hc]
  unfold wtf
  rw [List.getD_eq_getElem?_getD, List.getElem?_eq_getElem (by omega)]; rfl
theorem wt_bd {ws : List Int} (h : ws.any (outN 1073741825) = false) (v : Nat) : 0 ≤ wtf ws v ∧ wtf ws v ≤ 1073741824 := by
  unfold wtf
  rw [List.getD_eq_getElem?_getD]
  rcases Nat.lt_or_ge v ws.length with hv | hv
  · rw [List.getElem?_eq_getElem hv]
    have := List.any_eq_false.1 h _ (List.getElem_mem hv)
    simp [outN, wi] at this
    simp; omega
  · rw [List.getElem?_eq_none hv]; simp
/-- What Longest answers: the sum and the path. -/
def lgA (l : List (Nat × Nat)) (n : Nat) (ws : List Int) : Int × List Nat :=
  if n = 0 then (0, []) else
    let S := lgS (adj l) (wtf ws) n
    (S (amx S n), chn (lgN (adj l) (wtf ws) n) (n + 1) (amx S n))
/-- The error of Longest. -/
def lgE (l : List (Nat × Nat)) (n : Nat) (ws : List Int) : Int :=
  if ws.length ≠ n then 3 else if ws.any (outN 1073741825) = true then 2 else if ordr (adj l) n n [] = none then 23 else 0
set_option maxRecDepth 100000 in
theorem lon_no (p : Option Addr) (n : Int) (l : List (Int × Int)) (cap : Nat) (w : World) (o : Value) (hS : Sl w p l) (h : vG n l = false) :
    Calls Try.prog 20 #[.int .i64 n, .slice p l.length cap, o] w fun e w' => e = .returned (.tuple #[.int .i64 0, .slice none 0 0, .int .i64 1]) ∧ Below w.heap.size w w' := by
  have hv := valid_any p l cap n _ hS
  rw [h] at hv
  go_enter Try.func20, Try.ntmps20
  go_wp2_with (go_at_call 15; (with_reducible refine hv.mono ?_); rintro e w1 ⟨rfl, b1⟩)
  exact bodyPost_ret (v := .tuple #[.int .i64 0, .slice none 0 0, .int .i64 1]) (by simp [results, Try.results20, go_sem]) rfl ⟨rfl, b1⟩
set_option maxRecDepth 100000 in
set_option maxHeartbeats 2000000 in
theorem lon_err (p : Option Addr) (n : Nat) (l : List (Nat × Nat)) (cap : Nat) (w : World) (o : Value) (ws : List Int) (hG : Gr w p n l) (hO : Rdz w o ws) (hol : ws.length ≤ 100000) (he : lgE l n ws ≠ 0) :
    Calls Try.prog 20 #[.int .i64 n, .slice p l.length cap, o] w fun e w' => e = .returned (.tuple #[.int .i64 0, .slice none 0 0, .int .i64 (lgE l n ws)]) ∧ Below w.heap.size w w' := by
  have hn := hG.2.2.1
  have hv := valid_ok cap hG
  have HO := Lib.hid hO
  obtain ⟨q, c, rfl, k1⟩ := hO
  clear k1
  by_cases h1 : ws.length = n
  · by_cases h2 : ws.any (outN 1073741825) = true
    · have e : lgE l n ws = 2 := by unfold lgE; rw [if_neg (by simpa using h1), if_pos h2]
      rw [e]
      have t1 : ((ws.length : Int) != (n : Int)) = false := by simp; omega
      have H2 := Lib.hid h2
      clear e h1 h2 he
      go_enter Try.func20, Try.ntmps20
      go_wp2_with (first
        | (go_at_call 15; (with_reducible refine hv.mono ?_); rintro e w1 ⟨rfl, b1⟩)
        | (go_at_call 32; (with_reducible refine (out49_has _ ws _ (HO.out.on b1) hol).mono ?_); rw [H2.out]; rintro e w2 ⟨rfl, rfl⟩))
      exact bodyPost_ret (v := .tuple #[.int .i64 0, .slice none 0 0, .int .i64 2]) (by simp [results, Try.results20, go_sem]) rfl ⟨rfl, b1⟩
    · have h2 : ws.any (outN 1073741825) = false := by simpa using h2
      have h3 : ordr (adj l) n n [] = none := by
        cases h : ordr (adj l) n n [] with
        | none => rfl
        | some E => exact absurd (by unfold lgE; rw [if_neg (by simpa using h1), if_neg (by rw [h2]; simp), h]; simp) he
      have e : lgE l n ws = 23 := by unfold lgE; rw [if_neg (by simpa using h1), if_neg (by rw [h2]; simp), if_pos h3]
      rw [e]
      have t1 : ((ws.length : Int) != (n : Int)) = false := by simp; omega
      have H2 := Lib.hid h2
      have H3 := Lib.hid h3
      clear e h1 h2 he h3
      go_enter Try.func20, Try.ntmps20
      go_wp2_with (first
        | (go_at_call 15; (with_reducible refine hv.mono ?_); rintro e w1 ⟨rfl, b1⟩)
        | (go_at_call 32; (with_reducible refine (out49_has _ ws _ (HO.out.on b1) hol).mono ?_); rw [H2.out]; rintro e w2 ⟨rfl, rfl⟩)
        | (go_at_call 42; (with_reducible refine (graph_gm p n l cap _ (hG.on b1)).mono ?_); rintro e w3 ⟨rfl, g3, b3⟩)
        | (go_at_call 43; (with_reducible refine (order_none g3 H3.out).mono ?_); rintro e w4 ⟨rfl, b4⟩))
      exact bodyPost_ret (v := .tuple #[.int .i64 0, .slice none 0 0, .int .i64 23]) (by simp [results, Try.results20, go_sem]) rfl ⟨rfl, belows (belows b1 b3) b4⟩
  · have e : lgE l n ws = 3 := by unfold lgE; rw [if_pos h1]
    rw [e]
    have t1 : ((ws.length : Int) != (n : Int)) = true := by simp; omega
    clear e h1 he
    go_enter Try.func20, Try.ntmps20
    go_wp2_with (go_at_call 15; (with_reducible refine hv.mono ?_); rintro e w1 ⟨rfl, b1⟩)
    exact bodyPost_ret (v := .tuple #[.int .i64 0, .slice none 0 0, .int .i64 3]) (by simp [results, Try.results20, go_sem]) rfl ⟨rfl, b1⟩
set_option maxRecDepth 100000 in
set_option maxHeartbeats 2000000 in
theorem lon_ok (p : Option Addr) (n : Nat) (l : List (Nat × Nat)) (cap : Nat) (w : World) (o : Value) (ws : List Int) (hG : Gr w p n l) (hO : Rdz w o ws) (hol : ws.length ≤ 100000) (he : lgE l n ws = 0) :
    Calls Try.prog 20 #[.int .i64 n, .slice p l.length cap, o] w fun e w' => ∃ v, e = .returned (.tuple #[.int .i64 (lgA l n ws).1, v, .int .i64 0]) ∧ Own w.heap.size w' v (lgA l n ws).2 ∧ Below w.heap.size w w' := by
  have hn := hG.2.2.1
  have hv := valid_ok cap hG
  have HO := Lib.hid hO
  obtain ⟨q, c, rfl, k1⟩ := hO
  clear k1
  have h1 : ws.length = n := by
    by_cases h : ws.length = n
    · exact h
    · exact absurd he (by unfold lgE; rw [if_pos h]; decide)
  have h2 : ws.any (outN 1073741825) = false := by
    by_cases h : ws.any (outN 1073741825) = true
    · exact absurd he (by unfold lgE; rw [if_neg (by simpa using h1), if_pos h]; decide)
    · simpa using h
  obtain ⟨E, h3⟩ : ∃ E, ordr (adj l) n n [] = some E := by
    cases h : ordr (adj l) n n [] with
    | some E => exact ⟨E, rfl⟩
    | none => exact absurd he (by unfold lgE; rw [if_neg (by simpa using h1), if_neg (by rw [h2]; simp), if_pos h]; decide)
  have t1 : ((ws.length : Int) != (n : Int)) = false := by simp; omega
  have hwb := wt_bd h2
  have H2 := Lib.hid h2
  have H3 := Lib.hid h3
  have H1 := Lib.hid h1
  by_cases hn0 : n = 0
  · have e : lgA l n ws = (0, []) := by unfold lgA; rw [if_pos hn0]
    rw [e]
    have t2 : ((n : Int) == 0) = true := by simp; omega
    clear e h1 h2 he h3 hn0
    go_enter Try.func20, Try.ntmps20
    go_wp2_with (first
      | (go_at_call 15; (with_reducible refine hv.mono ?_); rintro e w1 ⟨rfl, b1⟩)
      | (go_at_call 32; (with_reducible refine (out49_has _ ws _ (HO.out.on b1) hol).mono ?_); rw [H2.out]; rintro e w2 ⟨rfl, rfl⟩)
      | (go_at_call 42; (with_reducible refine (graph_gm p n l cap _ (hG.on b1)).mono ?_); rintro e w3 ⟨rfl, g3, b3⟩)
      | (go_at_call 43; (with_reducible refine (order_some g3 H3.out).mono ?_); rintro e w4 ⟨v4, rfl, o4, b4⟩))
    exact bodyPost_ret (v := .tuple #[.int .i64 0, .slice none 0 0, .int .i64 0]) (by simp [results, Try.results20, go_sem]) rfl ⟨_, rfl, World.ownsRow_nil _ _ _ _, belows (belows b1 b3) b4⟩
  · have t2 : ((n : Int) == 0) = false := by simp; omega
    have hnp : 0 < n := by omega
    have hAn : ∀ v, v < n → ∀ u ∈ adj l v, u < n := fun v hv u hu => (hG.2.2.2 _ ((mem_adj l v u).1 hu)).2
    have hr := ordr_rank hAn h3
    obtain ⟨rk, hrk⟩ : ∃ rk, Rnk (adj l) n rk := ⟨_, hr⟩
    have e : lgA l n ws = (lgS (adj l) (wtf ws) n (amx (lgS (adj l) (wtf ws) n) n), chn (lgN (adj l) (wtf ws) n) (n + 1) (amx (lgS (adj l) (wtf ws) n) n)) := by unfold lgA; rw [if_neg hn0]
    rw [e]
    have hml := amx_lt (lgS (adj l) (wtf ws) n) n hnp
    have HAN := Lib.hid hAn
    obtain ⟨M, hM⟩ : ∃ M, M = amx (lgS (adj l) (wtf ws) n) n := ⟨_, rfl⟩
    rw [← hM] at hml ⊢
    have HM := Lib.hid hM
    clear e h1 h2 he h3 hn0 hM hr hAn
    go_enter Try.func20, Try.ntmps20
    go_wp2_with (first
      | (go_at_call 15; (with_reducible refine hv.mono ?_); rintro e w1 ⟨rfl, b1⟩)
      | (go_at_call 32; (with_reducible refine (out49_has _ ws _ (HO.out.on b1) hol).mono ?_); rw [H2.out]; rintro e w2 ⟨rfl, rfl⟩)
      | (go_at_call 42; (with_reducible refine (graph_gm p n l cap _ (hG.on b1)).mono ?_); rintro e w3 ⟨rfl, g3, b3⟩)
      | (go_at_call 43; (with_reducible refine (order_some g3 H3.out).mono ?_); rintro e w4 ⟨v4, rfl, o4, b4⟩))
    have bw4 := belows (belows b1 b3) b4
    have hC := longest_any w1.heap.size n q c (wtf ws) (adj l) rk w4 hnp (g3.on b4) (fun v hv => rdz_wt (HO.out.on bw4) rfl v (by rw [H1.out]; exact hv)) hwb hrk
    rw [show (Value.slice q n c) = .slice q ws.length c by rw [H1.out]] at hC
    go_wp2_with (go_at_call 50; (with_reducible refine hC.mono ?_); rintro e w5 ⟨bp, bm, rfl, hbm, hP5, b5⟩)
    rw [← HM.out] at hbm
    have hN : ∀ W, Below w5.heap.size w5 W → Calls Try.prog 51 #[.pointer (some ⟨bm, 0, none⟩)] W fun e w' => ∃ u, e = .returned u ∧ Own W.heap.size w' u (chn (lgN (adj l) (wtf ws) n) (n + 1) M) ∧ Below W.heap.size W w' := fun W hW =>
      nodes_any n (adj l) (wtf ws) rk bp M bm W hn HAN.out hrk hml (hP5.on hW) hbm
    have c1 := (hP5 M bm hbm).1.read 1
    have bw5 := belows bw4 b5
    have Q0 : Below w5.heap.size w5 w5 := Below.refl _ _
    have hsz : w.heap.size ≤ w5.heap.size := bw5.size
    clear hP5 hC
    go_region_law (go_simp; go_at_call 51; (refine (hN _ (by repeat' (first | exact Q0 | refine below_dr ?_))).mono ?_); rintro e w6 ⟨u, rfl, o6, b6⟩; have Q6 : Below w5.heap.size w5 w6 := belows (by repeat' (first | exact Q0 | refine below_dr ?_)) b6; have c1 := cell_later Q6 c1)
    all_goals (
      go_wp2
      refine bodyPost_ret (v := .tuple #[.int .i64 (lgS (adj l) (wtf ws) n M), u, .int .i64 0]) (by simp [results, Try.results20, go_sem]) rfl ⟨u, rfl, ?_, ?_⟩
      · exact Own.mono o6 (by first | exact hsz | (simp; omega))
      · exact belows bw5 Q6)
end Go.Proofs.Yteofbbakegcohaa
