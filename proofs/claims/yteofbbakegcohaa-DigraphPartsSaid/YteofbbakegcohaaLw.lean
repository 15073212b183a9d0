/- The loop from a node. -/
import Derived.Test.YteofbbakegcohaaDs
import Derived.Test.YteofbbakegcohaaTv
namespace Go.Proofs.Yteofbbakegcohaa
open Go.ChangeShapes Go.WideShapes Go.ChangeAt Go.RowKit
set_option linter.unusedVariables false
set_option linter.unusedSimpArgs false


/-- The first of the nodes that are nearest. -/
def mnf (d : Nat → Nat) : List Nat → Nat
  | [] => 0
  | x :: xs => xs.foldl (fun m y => if d y < d m then y else m) x
/-- The same, as far as k numbers tell. -/
def mnk (d : Nat → Nat) (xs : List Nat) (k : Nat) : Nat := mnf d (xs.take k)
theorem mnk_one (d : Nat → Nat) (x : Nat) (xs : List Nat) : mnk d (x :: xs) 1 = x := by simp [mnk, mnf]
theorem mnk_next (d : Nat → Nat) {xs : List Nat} {k : Nat} (h1 : 1 ≤ k) (hk : k < xs.length) : mnk d xs (k + 1) = if d xs[k] < d (mnk d xs k) then xs[k] else mnk d xs k := by
  cases xs with
  | nil => simp at hk
  | cons x t =>
    obtain ⟨m, rfl⟩ : ∃ m, k = m + 1 := ⟨k - 1, by omega⟩
    have hm : m < t.length := by simpa using hk
    unfold mnk
    rw [List.take_succ_cons, List.take_succ_cons, List.take_succ_eq_append_getElem hm]
    show (t.take m ++ [t[m]]).foldl (fun m y => if d y < d m then y else m) x = _
    rw [List.foldl_append]
    rfl
theorem mnk_end (d : Nat → Nat) (xs : List Nat) : mnk d xs xs.length = mnf d xs := by unfold mnk; rw [List.take_length]
theorem mnk_mem (d : Nat → Nat) (xs : List Nat) : ∀ k, 1 ≤ k → k ≤ xs.length → mnk d xs k ∈ xs
  | 0, h, _ => by omega
  | 1, _, h => by
    cases xs with
    | nil => simp at h
    | cons x t => rw [mnk_one]; simp
  | k + 2, _, h => by
    rw [mnk_next d (by omega) (by omega)]
    split
    · exact List.getElem_mem _
    · exact mnk_mem d xs (k + 1) (by omega) (by omega)
set_option maxRecDepth 100000 in
theorem clo73 (D g n x y : Nat) (d : Nat → Nat) (w : World) (hD : w.cell? ⟨D, 0, none⟩ = some (.slice (some ⟨g, 0, none⟩) n n)) (hR : Row w g n (fun v => ((d v : Nat) : Int))) (hx : x < n) (hy : y < n) :
    Calls Try.prog 73 #[.int .i64 x, .int .i64 y, .pointer (some ⟨D, 0, none⟩)] w fun e w' => e = .returned (.int .i64 (cmpZ (d x) (d y))) ∧ ∃ m, w' = w.drewN m := by
  have c1 := hR.read hx
  have c2 := hR.read hy
  obtain ⟨a, ha⟩ : ∃ a : Int, a = ((d x : Nat) : Int) := ⟨_, rfl⟩
  obtain ⟨b, hb⟩ : ∃ b : Int, b = ((d y : Nat) : Int) := ⟨_, rfl⟩
  rw [← ha] at c1 ⊢
  rw [← hb] at c2 ⊢
  have hc := fun W => compare_s a b W
  have q1 : (0 : Int) ≤ (x : Int) := by omega
  have q2 : (x : Int) < (n : Int) := by omega
  have q3 : (0 : Int) ≤ (y : Int) := by omega
  have q4 : (y : Int) < (n : Int) := by omega
  clear ha hb hR
  go_enter Try.func73, Try.ntmps73
  go_wp2_with fail
  go_quiet (exact Calls.quiet_of_same (hc _))
  go_wp2
  go_ret
  exact ⟨rfl, _, rfl⟩
set_option maxRecDepth 100000 in
set_option maxHeartbeats 2000000 in
theorem min_any (u : Value) (xs : List Nat) (D g n : Nat) (d : Nat → Nat) (w : World) (hu : Rdl w u xs) (hxl : xs.length ≤ 100000) (hx0 : 0 < xs.length) (hxn : ∀ x ∈ xs, x < n) (hD : w.cell? ⟨D, 0, none⟩ = some (.slice (some ⟨g, 0, none⟩) n n)) (hR : Row w g n (fun v => ((d v : Nat) : Int))) :
    Calls Try.prog 72 #[u, .func (.func 73) #[] #[.pointer (some ⟨D, 0, none⟩)]] w fun e w' => e = .returned (.int .i64 ((mnf d xs : Nat) : Int)) ∧ Below w.heap.size w w' := by
  obtain ⟨q, c, rfl, k1⟩ := hu
  have K1 := Lib.hid k1
  obtain ⟨g0, rfl, c0⟩ := k1 0 hx0
  have h1 : mnk d xs 1 = xs[0] := by
    cases xs with
    | nil => simp at hx0
    | cons x t => rw [mnk_one]; rfl
  rw [← h1] at c0
  have t01 : decide ((xs.length : Int) < 1) = false := decide_eq_false (by omega)
  have t02 : decide (xs.length < 1) = false := decide_eq_false (by omega)
  have t03 : ¬ xs.length < 1 := by omega
  have q0 : (0 : Int) < (xs.length : Int) := by omega
  obtain ⟨m0, hm0⟩ : ∃ m, m = mnk d xs 1 := ⟨_, rfl⟩
  rw [← hm0] at c0
  have HM0 : Hid (m0 = mnk d xs 1) := Lib.hid hm0
  have HXN := Lib.hid hxn
  have HR := Lib.hid hR
  clear h1 k1 hm0 hxn hR
  go_enter Try.func72, Try.ntmps72
  go_wp2
  go_loopw [5, 6] (fun v5 v6 wr => ∃ (k m : Nat), v6 = .int .i64 k ∧ v5 = .int .i64 m ∧ 1 ≤ k ∧ k ≤ xs.length ∧ Hid (m = mnk d xs k) ∧ Below w.heap.size w wr) (fun _ v _ => xs.length - (intOf v).toNat)
  case atStart => exact ⟨1, m0, rfl, rfl, Nat.le_refl _, by omega, HM0, Below.refl _ _⟩
  case round =>
    clear HM0 c0
    obtain ⟨k, m, rfl, rfl, hk1, hk, HM, hB⟩ := hrel
    by_cases hlt : k < xs.length
    · have g1 : decide ((k : Int) < (xs.length : Int)) = true := by simp [hlt]
      have W1 : IntKind.i64.wrap ((k : Int) + 1) = ((k + 1 : Nat) : Int) := by rw [IntWalk.i64_in _ (by omega)]; omega
      have q1 : (0 : Int) ≤ (k : Int) := by omega
      have q2 : (k : Int) < (xs.length : Int) := by omega
      obtain ⟨g', e', ck⟩ := K1.out k hlt
      cases e'
      have ck := cell_later hB ck
      have hxk := HXN.out _ (List.getElem_mem hlt)
      have hmm := HXN.out _ (mnk_mem d xs k hk1 hk)
      have hnx := mnk_next d hk1 hlt
      obtain ⟨x, hxx⟩ : ∃ x, x = xs[k] := ⟨_, rfl⟩
      rw [← hxx] at ck hxk hnx
      rw [← HM.out] at hmm hnx
      clear hxx
      have hc := clo73 D g n x m d wr (cell_later hB hD) (Row.on HR.out hB) hxk hmm
      have hgt := cmp_lt (d x) (d m)
      obtain ⟨z, hz⟩ : ∃ z, z = cmpZ (d x) (d m) := ⟨_, rfl⟩
      rw [← hz] at hc hgt
      have HGT := Lib.hid hgt
      have HNX := Lib.hid hnx
      clear hz hgt hnx
      by_cases hm : d x < d m
      · have t1 : decide (z < 0) = true := by rw [HGT.out]; simp; omega
        have HM2 : Hid (x = mnk d xs (k + 1)) := Lib.hid (by rw [HNX.out, if_pos hm])
        clear hm
        go_wp2_with (go_at_call 73; (with_reducible refine hc.mono ?_); rintro e w5 ⟨rfl, m5, rfl⟩; have ck := cell_later (below_drewN (Below.refl _ wr) m5) ck)
        exact ⟨⟨k + 1, x, by go_num, rfl, by omega, hlt, HM2, below_drewN hB _⟩, by simp [intOf]; omega⟩
      · have t1 : decide (z < 0) = false := by rw [HGT.out]; simp; omega
        have HM2 : Hid (m = mnk d xs (k + 1)) := Lib.hid (by rw [HNX.out, if_neg hm])
        clear hm
        go_wp2_with (go_at_call 73; (with_reducible refine hc.mono ?_); rintro e w5 ⟨rfl, m5, rfl⟩)
        exact ⟨⟨k + 1, m, by go_num, rfl, by omega, hlt, HM2, below_drewN hB _⟩, by simp [intOf]; omega⟩
    · have g1 : decide ((k : Int) < (xs.length : Int)) = false := by simp; omega
      have e : k = xs.length := by omega
      have HM2 : Hid (m = mnf d xs) := Lib.hid (by rw [HM.out, e, mnk_end])
      clear e
      go_wp2
      go_ret
      exact ⟨by rw [← HM2.out]; rfl, hB⟩
set_option maxRecDepth 100000 in
theorem nearer_any (v GB D g G n : Nat) (d : Nat → Nat) (A : Nat → List Nat) (w : World) (hG : Gm w G n A) (hv : v < n) (h0 : 0 < (A v).length) (hGB : w.cell? ⟨GB, 0, none⟩ = some (.slice (some ⟨G, 0, none⟩) n n)) (hD : w.cell? ⟨D, 0, none⟩ = some (.slice (some ⟨g, 0, none⟩) n n)) (hR : Row w g n (fun v => ((d v : Nat) : Int))) :
    Calls Try.prog 71 #[.int .i64 v, .pointer (some ⟨GB, 0, none⟩), .pointer (some ⟨D, 0, none⟩)] w fun e w' => e = .returned (.int .i64 ((mnf d (A v) : Nat) : Int)) ∧ Below w.heap.size w w' := by
  obtain ⟨u, cu, ru⟩ := hG.rd v hv
  have hc := min_any u (A v) D g n d w ru (Nat.le_trans (hG.len v) (by omega)) h0 (hG.lt v hv) hD hR
  have q1 : (0 : Int) ≤ (v : Int) := by omega
  have q2 : (v : Int) < (n : Int) := by omega
  clear hR ru
  go_enter Try.func71, Try.ntmps71
  go_wp2_with (go_at_call 72; (with_reducible refine hc.mono ?_); rintro e w5 ⟨rfl, hb⟩)
  go_ret
  exact ⟨rfl, hb⟩
/-- The rest of the loop from a node on. -/
def lpw (A : Nat → List Nat) (d : Nat → Nat) (first : Nat) : Nat → Nat → List Nat
  | 0, _ => []
  | k + 1, v => if v = first then [] else v :: lpw A d first k (mnf d (A v))
/-- What the loop asks of the distances. -/
structure Lh (A : Nat → List Nat) (n first : Nat) (d : Nat → Nat) : Prop where
  f : first < n
  a : 0 < (A first).length
  s : d (mnf d (A first)) < n
  v : ∀ v, v < n → v ≠ first → d v < n → 0 < (A v).length ∧ d (mnf d (A v)) < d v
set_option maxRecDepth 100000 in
set_option maxHeartbeats 4000000 in
theorem loop_any (G n first : Nat) (A : Nat → List Nat) (w : World) (hG : Gm w G n A) (hL : Lh A n first (dst A n first)) :
    Calls Try.prog 55 #[.slice (some ⟨G, 0, none⟩) n n, .int .i64 first] w fun e w' => ∃ v, e = .returned v ∧ Own w.heap.size w' v (first :: lpw A (dst A n first) first n (mnf (dst A n first) (A first))) ∧ Below w.heap.size w w' := by
  have hn := hG.sz
  obtain ⟨i0, hi, hz0, hz1, hz2⟩ := info_parts info3
  have a1 := al1 w (.cells #[.slice (some ⟨G, 0, none⟩) n n] 66)
  have HGB := Has.new_ w 66 #[.slice (some ⟨G, 0, none⟩) n n]
  have hd := distances_any G n first A _ (hG.on a1) hL.f
  obtain ⟨d, hdd⟩ : ∃ d, d = dst A n first := ⟨_, rfl⟩
  rw [← hdd] at hd hL ⊢
  have HL := Lib.hid hL
  have hmem : ∀ v, v < n → 0 < (A v).length → mnf d (A v) < n := fun v hv h0 => by
    have := mnk_mem d (A v) (A v).length (by omega) (Nat.le_refl _)
    rw [mnk_end] at this
    exact hG.lt v hv _ this
  have HME := Lib.hid hmem
  obtain ⟨L, hLL⟩ : ∃ L, L = first :: lpw A d first n (mnf d (A first)) := ⟨_, rfl⟩
  rw [← hLL]
  have H0 : Hid (L = [first] ++ lpw A d first n (mnf d (A first))) := Lib.hid hLL
  have hf := hL.f
  have ha := hL.a
  have hs := hL.s
  have hm0 := hmem first hf ha
  clear hdd hLL hL hmem
  have hGx := hG
  go_enter Try.func55, Try.ntmps55
  go_wp2_with (go_at_call 70; (with_reducible refine hd.mono ?_); rintro e w2 ⟨R, rfl, hR1, hR2, b2⟩)
  have bw2 := belows a1 b2
  have HGB2 := Has.on HGB b2
  have HD2 := Has.new_ w2 23 #[.slice (some ⟨R, 0, none⟩) n n]
  have c1 := al1 w2 (.cells #[.slice (some ⟨R, 0, none⟩) n n] 23)
  have c2 := al1 (w2.alloc (.cells #[.slice (some ⟨R, 0, none⟩) n n] 23)) (.cells #[.int .i64 (first : Int)] 3)
  have c12 := belows c1 c2
  have gb3 := (HGB2.on c12).read 0
  have d3 := (HD2.on c2).read 0
  have r3 := Row.on hR2 c12
  have bw3 := belows bw2 c12
  have HN := nearer_any first w.heap.size w2.heap.size R G n d A _ (hG.on bw3) hf ha gb3 d3 r3
  have HgD := Lib.hid (HGB2.on c1)
  have HdD := Lib.hid HD2
  have HrD := Lib.hid (Row.on hR2 c1)
  have bwD := belows bw2 c1
  have hRw := hR2.size_
  have hw2 := bw2.size
  have hgw2 := HGB2.size_
  have HO2 : Hid (Own (w2.heap.size + 1) ((w2.alloc (.cells #[.slice (some ⟨R, 0, none⟩) n n] 23)).alloc (.cells #[.int .i64 (first : Int)] 3)) (.slice (some ⟨w2.heap.size + 1, 0, none⟩) 1 1) [first]) := Lib.hid (by
    have h := World.ownsRow_lit (base := w2.heap.size + 1) (e := 3) (size := 1) (w2.alloc (.cells #[.slice (some ⟨R, 0, none⟩) n n] 23)) #[.int .i64 (first : Int)] 1 (by simp) (by unfold maxLen; omega) rfl
    simpa [Own, ints] using h)
  clear gb3 d3 r3 c12 HD2 HGB2 hR2 bw3
  go_wp2_with (go_at_call 71; (with_reducible refine HN.mono ?_); rintro e w4 ⟨rfl, b4⟩)
  generalize hWD : w2.alloc (.cells #[.slice (some ⟨R, 0, none⟩) n n] 23) = wD at *
  have sD : wD.heap.size = w2.heap.size + 1 := by rw [← hWD]; simp
  have O4 := own_on HO2.out b4
  have B4 : Below (w2.heap.size + 1) wD w4 := by rw [← sD]; exact belows c2 b4
  have S4 : w2.heap.size + 1 ≤ w4.heap.size := by rw [← sD]; exact B4.size
  have HS : Hid (d (mnf d (A first)) < n) := Lib.hid hs
  clear hWD HO2 b4 c1 c2 HN hs b2 a1 hd HGB
  have lW : w.heap.size < w2.heap.size + 1 := by omega
  have lR : R < w2.heap.size + 1 := by omega
  go_loopg [7, 8] n (fun kk v7 v8 wr => ∃ (xs : List Nat) (v : Nat), v8 = .int .i64 v ∧ v < n ∧ Hid (d v < kk ∧ kk ≤ n) ∧ Hid (L = xs ++ lpw A d first kk v) ∧ Hid (xs.length + kk ≤ n + 1) ∧ Own (w2.heap.size + 1) wr v7 xs ∧ Below (w2.heap.size + 1) wD wr ∧ w2.heap.size + 1 ≤ wr.heap.size)
  case atStart => exact ⟨[first], _, rfl, hm0, Lib.hid ⟨HS.out, Nat.le_refl _⟩, H0, Lib.hid (by simp; omega), O4, B4, S4⟩
  case round =>
    clear H0 HS O4 B4 S4
    obtain ⟨xs, v, rfl, hv, HD, HLL, HX, O, B, S⟩ := hrel
    by_cases hvf : v = first
    · have t1 : ((v : Int) != (first : Int)) = false := by simp; omega
      have HF : Hid (L = xs) := Lib.hid (by
        have := HLL.out
        obtain ⟨m, hm⟩ : ∃ m, gk = m + 1 := ⟨gk - 1, by have := HD.out; omega⟩
        rw [hm, lpw, if_pos hvf, List.append_nil] at this
        exact this)
      clear hvf
      go_wp2
      go_ret
      exact ⟨_, rfl, by rw [HF.out]; exact O.mono (by omega), bwD.trans (B.mono (by omega))⟩
    · have t1 : ((v : Int) != (first : Int)) = true := by simp; omega
      obtain ⟨hA0, hdd⟩ := HL.out.v v hv hvf (by have := HD.out; omega)
      have HF : Hid (L = (xs ++ [v]) ++ lpw A d first (gk - 1) (mnf d (A v))) := Lib.hid (by
        have := HLL.out
        obtain ⟨m, hm⟩ : ∃ m, gk = m + 1 := ⟨gk - 1, by have := HD.out; omega⟩
        rw [hm, lpw, if_neg hvf] at this
        rw [this, hm]; simp)
      have HD2 : Hid (gk - 1 < gk ∧ d (mnf d (A v)) < gk - 1 ∧ gk - 1 ≤ n) := Lib.hid (by have := HD.out; omega)
      have hxl : xs.length ≤ 100 := by have := HX.out; omega
      have HX2 : Hid ((xs ++ [v]).length + (gk - 1) ≤ n + 1) := Lib.hid (by have := HX.out; have := HD.out; rw [List.length_append]; simp; omega)
      have hmv := HME.out v hv hA0
      clear hvf hdd
      have hNn : ∀ W, Below (w2.heap.size + 1) wD W → Calls Try.prog 71 #[.int .i64 v, .pointer (some ⟨w.heap.size, 0, none⟩), .pointer (some ⟨w2.heap.size, 0, none⟩)] W fun e w' => e = .returned (.int .i64 ((mnf d (A v) : Nat) : Int)) ∧ Below W.heap.size W w' := fun W hW =>
        nearer_any v w.heap.size w2.heap.size R G n d A W (hGx.on (bwD.trans (hW.mono (by omega)))) hv hA0 ((has_below HgD.out hW lW).read 0) ((has_below HdD.out hW (by omega)).read 0) (has_below HrD.out hW lR)
      go_wp2_with (first
        | (at_builtin; refine wpList_append_own_at _ rfl _ _ 23 rfl (w2.heap.size + 1) 3 i0 _ 1 8 Try.underlying23 hi hz0 hz1 hz2 rfl (by decide) _ xs.length (ints xs) rfl (own_on O (al1 _ _)) ⟨_, 0, none⟩ 1 1 [.int .i64 (v : Int)] rfl rfl (cell_one_new _ _ _) (by simp [Value.oneCell']) (by unfold maxLen; omega) (by omega) (Nat.le_trans S (al1 _ _).size) ?_))
      intro v' w6 o1 o2 o3 o4
      have ob := al1 wr (.cells #[.int .i64 (v : Int)] 3)
      have B6 : Below (w2.heap.size + 1) wD w6 := (B.trans (ob.mono S)).grown o2 (by have := ob.size; omega) (fun j hj => (World.ownsRow.lt O _ hj).1)
      have O6 : Own (w2.heap.size + 1) w6 v' (xs ++ [v]) := by
        unfold Own
        rw [ints_app, List.length_append]
        exact o1
      have S6 : w2.heap.size + 1 ≤ w6.heap.size := Nat.le_trans S (Nat.le_trans ob.size o2.size)
      have hC := hNn w6 B6
      clear o1 o2 o3 o4 ob hNn
      go_wp2_with (go_at_call 71; (with_reducible refine hC.mono ?_); rintro e w7 ⟨rfl, b7⟩)
      go_roundg (gk - 1)
      case measure => exact HD2.out.1
      case rel => exact ⟨xs ++ [v], _, rfl, hmv, Lib.hid HD2.out.2, HF, HX2, own_on O6 b7, B6.trans (b7.mono S6), Nat.le_trans S6 b7.size⟩
end Go.Proofs.Yteofbbakegcohaa
