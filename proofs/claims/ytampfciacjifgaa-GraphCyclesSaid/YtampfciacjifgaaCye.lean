/- Cycle: whether a list is a cycle. -/
import Derived.Test.YtampfciacjifgaaClz
namespace Go.Proofs.Ytampfciacjifgaa
open Go.ChangeShapes Go.WideShapes Go.ChangeAt Go.RowKit Go.Maps
set_option linter.unusedVariables false
set_option linter.unusedSimpArgs false

/-- A slice of whole numbers, of any sign, that can be read. -/
def Rdz (w : World) (v : Value) (zs : List Int) : Prop := ∃ q c, v = .slice q zs.length c ∧ ∀ j (h : j < zs.length), ∃ a, q = some a ∧ w.cell? (a.add j) = some (.int .i64 zs[j])
theorem Rdz.on {w w1 : World} {v : Value} {zs : List Int} (h : Rdz w v zs) (hb : Below w.heap.size w w1) : Rdz w1 v zs := by
  obtain ⟨q, c, rfl, k⟩ := h
  refine ⟨q, c, rfl, fun j hj => ?_⟩
  obtain ⟨g, e, hc⟩ := k j hj
  exact ⟨g, e, cell_later hb hc⟩
def toZ (xs : List Nat) : List Int := xs.map fun (x : Nat) => (x : Int)
theorem toZ_len (xs : List Nat) : (toZ xs).length = xs.length := by simp [toZ]
theorem Rdy.z {w : World} {v : Value} {xs : List Nat} (h : Rdy w v xs) : Rdz w v (toZ xs) := by
  obtain ⟨q, c, rfl, k⟩ := h
  refine ⟨q, c, by rw [toZ_len], fun j hj => ?_⟩
  rw [toZ_len] at hj
  obtain ⟨g, e, hc⟩ := k j hj
  refine ⟨_, e, ?_⟩
  rw [hc]
  simp [toZ]
theorem Rdz.y {w : World} {v : Value} {xs : List Nat} (h : Rdz w v (toZ xs)) : Rdy w v xs := by
  obtain ⟨q, c, rfl, k⟩ := h
  refine ⟨q, c, by rw [toZ_len], fun j hj => ?_⟩
  obtain ⟨g, e, hc⟩ := k j (by rw [toZ_len]; exact hj)
  refine ⟨_, e, ?_⟩
  rw [hc]
  simp [toZ]
/-- Whether all numbers are indices. -/
def inR (m : Nat) (z : Int) : Bool := wi z m
theorem out_any (z : Int) (p : Option Addr) (m cap B : Nat) (w : World) (hB : w.cell? ⟨B, 0, none⟩ = some (.slice p m cap)) :
    Calls Try.prog 48 #[.int .i64 z, .pointer (some ⟨B, 0, none⟩)] w fun e w' => e = .returned (.bool (!inR m z)) ∧ w' = w := by
  have h := fun W => within_any z (m : Int) W
  rw [show wi z (m : Int) = inR m z from rfl] at h
  cases hv : inR m z
  all_goals (
    rw [hv] at h
    go_enter Try.func48, Try.ntmps48
    go_wp2_with (go_at_call 43; (with_reducible refine (h _).mono ?_); rintro e w1 ⟨rfl, rfl⟩)
    go_ret
    exact ⟨rfl, rfl⟩)
set_option maxRecDepth 100000 in
theorem idxo_any (u : Value) (zs : List Int) (p : Option Addr) (m cap B : Nat) (w : World) (hR : Rdz w u zs) (hl : zs.length ≤ 100000) (hB : w.cell? ⟨B, 0, none⟩ = some (.slice p m cap)) :
    Calls Try.prog 68 #[u, .func (.func 48) #[] #[.pointer (some ⟨B, 0, none⟩)]] w fun e w' => ∃ i : Int, e = .returned (.int .i64 i) ∧ decide (0 ≤ i) = !zs.all (inR m) ∧ w' = w := by
  obtain ⟨q, c, rfl, hq⟩ := hR
  go_enter Try.func68, Try.ntmps68
  go_wp2
  go_loopw [8] (fun v wr => ∃ k : Nat, v = .int .i64 k ∧ k ≤ zs.length ∧ Hid (∀ x ∈ zs.take k, inR m x = true) ∧ w = wr) (fun v _ => zs.length - (intOf v).toNat)
  case atStart => exact ⟨0, rfl, Nat.zero_le _, Lib.hid (by simp), rfl⟩
  case round =>
    obtain ⟨k, rfl, hk, hG, rfl⟩ := hrel
    by_cases hlt : k < zs.length
    · have g1 : decide ((k : Int) < (zs.length : Int)) = true := by simp [hlt]
      obtain ⟨a, rfl, cu⟩ := hq k hlt
      have W1 : IntKind.i64.wrap ((k : Int) + 1) = ((k + 1 : Nat) : Int) := by rw [IntWalk.i64_in _ (by omega)]; omega
      have q1 : (0 : Int) ≤ (k : Int) := by omega
      have q2 : (k : Int) < (zs.length : Int) := by omega
      have hf := out_any zs[k] p m cap B w hB
      obtain ⟨z, hz⟩ : ∃ z, z = zs[k] := ⟨_, rfl⟩
      rw [← hz] at cu hf
      have HZ := Lib.hid hz
      clear hz
      cases hv : inR m z
      · rw [hv] at hf
        have e : zs.all (inR m) = false := List.all_eq_false.2 ⟨_, List.getElem_mem hlt, by rw [← HZ.out, hv]; simp⟩
        go_wp2_with (go_at_call 48; (with_reducible refine hf.mono ?_); rintro e1 w1 ⟨rfl, rfl⟩)
        go_ret
        exact ⟨_, rfl, by rw [e]; simp, rfl⟩
      · rw [hv] at hf
        go_wp2_with (go_at_call 48; (with_reducible refine hf.mono ?_); rintro e1 w1 ⟨rfl, rfl⟩)
        refine ⟨⟨k + 1, rfl, hlt, Lib.hid ?_, trivial⟩, by simp [intOf]; omega⟩
        intro x hx'
        rw [List.take_succ_eq_append_getElem hlt, List.mem_append] at hx'
        rcases hx' with hx' | hx'
        · exact hG.out x hx'
        · rw [List.mem_singleton.1 hx', ← HZ.out]; exact hv
    · have g1 : decide ((k : Int) < (zs.length : Int)) = false := by simp; omega
      go_wp2
      go_ret
      have := hG.out
      rw [List.take_of_length_le (by omega)] at this
      have e : zs.all (inR m) = true := List.all_eq_true.2 this
      exact ⟨-1, rfl, by rw [e]; rfl, rfl⟩
def allR (m : Nat) (zs : List Int) : Bool := zs.all (inR m)
theorem outs_any (u : Value) (zs : List Int) (p : Option Addr) (m cap B : Nat) (w : World) (hR : Rdz w u zs) (hl : zs.length ≤ 100000) (hB : w.cell? ⟨B, 0, none⟩ = some (.slice p m cap)) :
    Calls Try.prog 47 #[u, .func (.func 48) #[] #[.pointer (some ⟨B, 0, none⟩)]] w fun e w' => e = .returned (.bool (!allR m zs)) ∧ w' = w := by
  have h := idxo_any u zs p m cap B w hR hl hB
  rw [show zs.all (inR m) = allR m zs from rfl] at h
  go_enter Try.func47, Try.ntmps47
  go_wp2_with (go_at_call 68; (with_reducible refine h.mono ?_); rintro e1 w1 ⟨i, rfl, hi, rfl⟩)
  go_ret
  exact ⟨rfl, rfl⟩

theorem allR_yes {m : Nat} {xs : List Nat} (h : ∀ i ∈ xs, i < m) : allR m (toZ xs) = true := by
  unfold allR toZ
  rw [List.all_map, List.all_eq_true]
  intro i hi
  have := h i hi
  simp [inR, wi]; omega
/-- Whether a list of indices is a cycle. -/
def cyB (l : List (Nat × Nat)) (xs : List Nat) : Bool := match xs with
  | i :: j :: t => if i = j then false else (cls l (l.getD i (0, 0)).1 (i :: j :: t) [] (l.getD i (0, 0)).1 || cls l (l.getD i (0, 0)).2 (i :: j :: t) [] (l.getD i (0, 0)).2)
  | _ => false
theorem cyB_lt {l : List (Nat × Nat)} {xs : List Nat} (h : xs.length < 2) : cyB l xs = false := by
  rcases xs with _ | ⟨i, _ | ⟨j, t⟩⟩
  · rfl
  · rfl
  · simp at h; omega
theorem cyB_eq {l : List (Nat × Nat)} {xs : List Nat} (h : 2 ≤ xs.length) (e : xs[0] = xs[1]) : cyB l xs = false := by
  rcases xs with _ | ⟨i, _ | ⟨j, t⟩⟩
  · simp at h
  · simp at h
  · simp at e; simp [cyB, e]
theorem cyB_ne {l : List (Nat × Nat)} {xs : List Nat} {x : Nat × Nat} (h : 2 ≤ xs.length) (e : xs[0] ≠ xs[1]) (hx : l[xs[0]]? = some x) : cyB l xs = (cls l x.1 xs [] x.1 || cls l x.2 xs [] x.2) := by
  rcases xs with _ | ⟨i, _ | ⟨j, t⟩⟩
  · simp at h
  · simp at h
  · simp at e hx; simp [cyB, e, hx]
def W2 (W : World) (a b : Int) : World := ((W.alloc (.cells #[.int .i64 0, .int .i64 0] 46)).setCell ⟨W.heap.size, 0, none⟩ (.int .i64 a)).setCell ⟨W.heap.size, 1, none⟩ (.int .i64 b)
theorem w2_has (W : World) (a b : Int) : Has (W2 W a b) W.heap.size 46 #[.int .i64 a, .int .i64 b] := Has.put_ (Has.put_ (Has.new_ W 46 #[.int .i64 0, .int .i64 0]) 0 _) 1 _
theorem w2_below (W : World) (a b : Int) : Below W.heap.size W (W2 W a b) :=
  (al1 W _).trans (At.below (((At.refl W.heap.size _).put 0 _).put 1 _) (Nat.le_refl _))
set_option maxRecDepth 100000 in
set_option maxHeartbeats 4000000 in
theorem cycle_yes (p : Option Addr) (n : Nat) (l : List (Nat × Nat)) (cap : Nat) (u : Value) (xs : List Nat) (w : World) (hG : Gr w p n l) (hR : Rdy w u xs) (hx : ∀ i ∈ xs, i < l.length) (hxl : xs.length ≤ 100000) :
    Calls Try.prog 21 #[.int .i64 n, .slice p l.length cap, u] w fun e w' => e = .returned (.tuple #[.bool (cyB l xs), .int .i64 0]) ∧ Below w.heap.size w w' := by
  have hm := hG.2.1
  have hn := hG.2.2.1
  have hE := (Has.new_ w 22 #[.slice p l.length cap])
  have c0 : (w.alloc (.cells #[.slice p l.length cap] 22)).cell? ⟨w.heap.size, 0, none⟩ = some (.slice p l.length cap) := hE.read 0
  have bE := al1 w (.cells #[.slice p l.length cap] 22)
  have hG0 := hG.on bE
  have hR0 := hR.on bE
  have ha := allR_yes hx
  have hO := fun W v k => outs_any u (toZ xs) p l.length cap w.heap.size W (Rdy.z v) (by rw [toZ_len]; exact hxl) k
  rw [ha] at hO
  clear ha
  obtain ⟨q, c, rfl, hq⟩ := hR
  by_cases h2 : xs.length < 2
  · have g1 : decide ((xs.length : Int) < 2) = true := decide_eq_true (by omega)
    have HF := Lib.hid (cyB_lt (l := l) h2)
    clear hq h2
    go_enter Try.func21, Try.ntmps21
    go_wp2_with (first
      | (go_at_call 14; (with_reducible refine (valid_ok cap hG0).mono ?_); rintro e w1 ⟨rfl, b1⟩; have hR1 := hR0.on b1; have c1 := cell_later b1 c0)
      | (go_at_call 47; (with_reducible refine (hO _ hR1 c1).mono ?_); rintro e w2 ⟨rfl, rfl⟩))
    go_quiet (fail)
    go_wp2
    refine bodyPost_ret (v := .tuple #[.bool false, .int .i64 0]) (by simp [results, Try.results21, go_sem]) rfl ⟨by rw [HF.out], below_drewN (belows bE b1) _⟩
  have g1 : decide ((xs.length : Int) < 2) = false := decide_eq_false (by omega)
  have g2 : (1 : Int) < (xs.length : Int) := by omega
  have g3 : (0 : Int) < (xs.length : Int) := by omega
  obtain ⟨a, rfl, d0⟩ := hq 0 (by omega)
  obtain ⟨a', ha', d1⟩ := hq 1 (by omega)
  cases ha'
  have d0 := cell_later bE d0
  have d1 := cell_later bE d1
  rw [show a.add 0 = a by simp [Addr.add]] at d0
  rw [show a.add 1 = ⟨a.block, a.off + 1, none⟩ by simp [Addr.add]] at d1
  have hik := hx _ (List.getElem_mem (show 0 < xs.length by omega))
  have hxe : l[xs[0]]? = some l[xs[0]] := List.getElem?_eq_getElem hik
  have hlm := hG.2.2.2 _ (List.getElem_mem hik)
  have k2 : 2 ≤ xs.length := by omega
  have hN : xs[0] ≠ xs[1] → _ := fun e => cyB_ne (l := l) k2 e hxe
  have hQ : xs[0] = xs[1] → _ := cyB_eq (l := l) k2
  have hGat := fun W (h : Gr W p n l) => h.at hik
  obtain ⟨x, hxx⟩ : ∃ x, x = l[xs[0]] := ⟨_, rfl⟩
  rw [← hxx] at hN hlm
  simp only [← hxx] at hGat
  obtain ⟨x1, x2⟩ := x
  simp only [] at hlm hN hGat
  obtain ⟨i, hi⟩ : ∃ i, i = xs[0] := ⟨_, rfl⟩
  obtain ⟨j, hj⟩ : ∃ i, i = xs[1] := ⟨_, rfl⟩
  rw [← hi] at d0 hik hN hQ
  rw [← hj] at d1 hN hQ
  simp only [← hi] at hGat
  have q1 : (0 : Int) ≤ (i : Int) := by omega
  have q2 : (i : Int) < (l.length : Int) := by omega
  clear hxe hxx hi hj hq
  by_cases hij : i = j
  · subst hij
    have t1 : ((i : Int) == (i : Int)) = true := by simp
    have HF := Lib.hid (hQ rfl)
    clear hN hQ hGat
    go_enter Try.func21, Try.ntmps21
    go_wp2_with (first
      | (go_at_call 14; (with_reducible refine (valid_ok cap hG0).mono ?_); rintro e w1 ⟨rfl, b1⟩; have hR1 := hR0.on b1; have c1 := cell_later b1 c0; have d01 := cell_later b1 d0; have d11 := cell_later b1 d1)
      | (go_at_call 47; (with_reducible refine (hO _ hR1 c1).mono ?_); rintro e w2 ⟨rfl, rfl⟩))
    go_quiet (fail)
    go_wp2
    refine bodyPost_ret (v := .tuple #[.bool false, .int .i64 0]) (by simp [results, Try.results21, go_sem]) rfl ⟨by rw [HF.out], below_drewN (belows bE b1) _⟩
  · have t1 : ((i : Int) == (j : Int)) = false := by simp; omega
    have HF := Lib.hid (hN hij)
    clear hN hQ hij
    go_enter Try.func21, Try.ntmps21
    go_wp2_with (first
      | (go_at_call 14; (with_reducible refine (valid_ok cap hG0).mono ?_); rintro e w1 ⟨rfl, b1⟩; have hG1 := hG0.on b1; have hR1 := hR0.on b1; have c1 := cell_later b1 c0; have d01 := cell_later b1 d0; have d11 := cell_later b1 d1)
      | (go_at_call 47; (with_reducible refine (hO _ hR1 c1).mono ?_); rintro e w2 ⟨rfl, rfl⟩))
    go_quiet (fail)
    have bW := belows bE (below_drewN b1 nq)
    have gW := Gr.on hG1 (below_drewN (Below.refl _ _) nq)
    have rW := Rdy.on hR1 (below_drewN (Below.refl _ _) nq)
    have cW := cell_later (below_drewN (Below.refl _ _) nq) c1
    have dW := cell_later (below_drewN (Below.refl _ _) nq) d01
    clear b1 hG1 hR1 c1 d01 d11 d0 d1 c0 hG0 hR0 bE hE
    go_wp2_with fail
    show Code.wp _ _ _ _ (w2.drewN nq)
    generalize w2.drewN nq = W at *
    obtain ⟨ae, rfl, f0, f1, -⟩ := hGat W gW
    have g3n : 0 < xs.length := by omega
    have z1 : (ae.add (i * 2)).block < W.heap.size := lt_of_cell f0
    have z2 : a.block < W.heap.size := lt_of_cell dW
    have z3 : w.heap.size < W.heap.size := lt_of_cell cW
    go_cut [8] (fun s wx => s = .pointer (some ⟨W.heap.size, 0, none⟩) ∧ Has wx W.heap.size 46 #[.int .i64 x1, .int .i64 x2] ∧ Below W.heap.size W wx)
    case first =>
      go_region_law (fail)
      all_goals (go_wp2_with fail)
      all_goals go_meet
      all_goals first
        | exact ⟨rfl, Has.new_ W 46 _, al1 W _⟩
        | exact ⟨rfl, Has.drew_ (Has.new_ W 46 _), below_dr (al1 W _)⟩
        | exact ⟨rfl, Has.new_ W.drew 46 _, below_al (below_dr (Below.refl _ _)) _⟩
        | exact ⟨rfl, w2_has W x1 x2, w2_below W x1 x2⟩
    case rest =>
      obtain ⟨rfl, hH, bx⟩ := hcut
      have gX := gW.on bx
      have rX := rW.on bx
      have cX := cell_later bx cW
      have e0 : wc.cell? ⟨W.heap.size, 0, none⟩ = some (.int .i64 x1) := hH.read 0
      have e1 : wc.cell? ⟨W.heap.size, 1, none⟩ = some (.int .i64 x2) := hH.read 1
      have bwx := belows bW bx
      have C1 := fun W g h => closes_any (some ae) n l cap (.slice (some a) xs.length c) xs x1 W g h hx hxl hlm.1
      have C2 := fun W g h => closes_any (some ae) n l cap (.slice (some a) xs.length c) xs x2 W g h hx hxl hlm.2.1
      have HE := Lib.hid e1
      clear f0 f1 dW cW gW rW bW e1
      cases hc1 : cls l x1 xs [] x1
      · rw [hc1] at C1 HF
        rw [Bool.false_or] at HF
        go_wp2_with (go_at_call 49; first
          | ((with_reducible refine (C1 _ gX rX).mono ?_); rintro e w3 ⟨rfl, b3⟩; have g3' := gX.on b3; have r3 := rX.on b3; have c3 := cell_later b3 cX; have e13 := cell_later b3 HE.out)
          | ((with_reducible refine (C2 w3 g3' r3).mono ?_); rintro e w4 ⟨rfl, b4⟩))
        refine bodyPost_ret (v := .tuple #[.bool (cls l x2 xs [] x2), .int .i64 0]) (by simp [results, Try.results21, go_sem]) rfl ⟨by rw [HF.out], belows (belows bwx b3) b4⟩
      · rw [hc1] at C1 HF
        rw [Bool.true_or] at HF
        go_wp2_with (go_at_call 49; ((with_reducible refine (C1 _ gX rX).mono ?_); rintro e w3 ⟨rfl, b3⟩; have g3' := gX.on b3; have r3 := rX.on b3; have c3 := cell_later b3 cX; have e13 := cell_later b3 HE.out))
        refine bodyPost_ret (v := .tuple #[.bool true, .int .i64 0]) (by simp [results, Try.results21, go_sem]) rfl ⟨by rw [HF.out], belows bwx b3⟩
end Go.Proofs.Ytampfciacjifgaa
