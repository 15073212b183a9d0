/- Path. -/
import Derived.Test.YtampfciacjifgaaNe2
import Derived.Deep.LoopGhost
namespace Go.Proofs.Ytampfciacjifgaa
open Go.ChangeShapes Go.WideShapes Go.ChangeAt Go.RowKit
set_option linter.unusedVariables false
set_option linter.unusedSimpArgs false

/-- The way to the start, over the first edge each that leads nearer. -/
def gp (l : List (Nat × Nat)) (A : Nat → List Nat) (f : Nat → Int) : Nat → Nat → List Nat
  | 0, _ => []
  | k + 1, v => match (A v).find? (nr l f v) with
    | some i => i :: gp l A f k (match l[i]? with
      | some x => oth x v
      | none => v)
    | none => []
theorem adj_mem {l : List (Nat × Nat)} {xs : List Nat} {v i : Nat} (h : i ∈ adj l xs v) : i ∈ xs ∧ ∃ x, l[i]? = some x ∧ (x.1 = v ∨ x.2 = v) := by
  obtain ⟨h1, h2⟩ := List.mem_filter.1 h
  refine ⟨h1, ?_⟩
  unfold inc at h2
  split at h2
  · rename_i x e
    exact ⟨x, e, by simpa using h2⟩
  · cases h2
theorem oth_inv {x : Nat × Nat} {v : Nat} (h : x.1 = v ∨ x.2 = v) (ne : x.1 ≠ x.2) : oth x (oth x v) = v ∧ (x.1 = oth x v ∨ x.2 = oth x v) := by
  unfold oth
  rcases h with h | h
  · rw [if_pos h, if_neg (by omega)]; exact ⟨h, .inr rfl⟩
  · have : ¬ x.1 = v := by omega
    rw [if_neg this, if_pos rfl]; exact ⟨h, .inl rfl⟩
/-- Being beside goes both ways. -/
theorem nbr_symm {l : List (Nat × Nat)} {n : Nat} {xs : List Nat} (hl : ∀ x ∈ l, x.1 < n ∧ x.2 < n ∧ x.1 ≠ x.2) {v u : Nat} (h : nbr l n (adj l xs) v u) : nbr l n (adj l xs) u v := by
  obtain ⟨hv, i, hi, x, hx, rfl⟩ := h
  obtain ⟨hxs, y, hy, hyv⟩ := adj_mem hi
  rw [hx] at hy
  simp only [Option.some.injEq] at hy
  subst hy
  have hm := hl x (List.mem_of_getElem? hx)
  have k := oth_inv hyv hm.2.2
  refine ⟨by unfold oth; split <;> omega, i, List.mem_filter.2 ⟨hxs, ?_⟩, x, hx, k.1⟩
  unfold inc
  rw [hx]
  simpa using k.2
/-- From a node that was reached, but for the start, an edge leads nearer; and each such leads one nearer. -/
theorem sp_near {l : List (Nat × Nat)} {n : Nat} {xs : List Nat} {f0 f : Nat → Int} {S v : Nat} (hl : ∀ x ∈ l, x.1 < n ∧ x.2 < n ∧ x.1 ≠ x.2) (h : Sp (nbr l n (adj l xs)) f0 f S) (hv : New f0 f v) (hS : v ≠ S) : ∃ i ∈ adj l xs v, nr l f v i = true := by
  obtain ⟨u, hu, hn, e⟩ := h.par v hv hS
  obtain ⟨hv', i, hi, x, hx, rfl⟩ := nbr_symm hl hn
  refine ⟨i, hi, ?_⟩
  unfold nr
  rw [hx]
  simp; omega
theorem sp_step {l : List (Nat × Nat)} {n : Nat} {xs : List Nat} {f0 f : Nat → Int} {S v i : Nat} {x : Nat × Nat} (hl : ∀ x ∈ l, x.1 < n ∧ x.2 < n ∧ x.1 ≠ x.2) (hc : ∀ v u, nbr l n (adj l xs) v u → f0 v < 0 → f0 u < 0) (h : Sp (nbr l n (adj l xs)) f0 f S) (hv : New f0 f v) (hvn : v < n)
    (hi : i ∈ adj l xs v) (hx : l[i]? = some x) (hr : nr l f v i = true) : New f0 f (oth x v) ∧ f v = f (oth x v) + 1 ∧ oth x v < n := by
  have hb : nbr l n (adj l xs) v (oth x v) := ⟨hvn, i, hi, x, hx, rfl⟩
  have d := h.done v hv _ hb
  have nw : New f0 f (oth x v) := ⟨hc v _ hb hv.1, d.1⟩
  have b := nbr_symm hl hb
  have d2 := h.done _ nw v b
  unfold nr at hr
  rw [hx] at hr
  simp at hr
  exact ⟨nw, by omega, b.1⟩
theorem sp_zero {nb : Nat → Nat → Prop} {f0 f : Nat → Int} {S v : Nat} (h : Sp nb f0 f S) (hv : New f0 f v) (e : f v = 0) : v = S := by
  rcases Nat.decEq v S with k | k
  · obtain ⟨u, hu, -, e2⟩ := h.par v hv k
    have := hu.2
    omega
  · exact k

def minus1 : Nat → Int := fun _ => -1
theorem un_minus1 : ∀ n, un minus1 n = n
  | 0 => rfl
  | n + 1 => by rw [un, un_minus1 n]; simp [minus1]
theorem new_iff {f : Nat → Int} {v : Nat} (h : 0 ≤ f v) : New minus1 f v := ⟨by simp [minus1], h⟩
theorem has_bex {D g : Nat} {w w' : World} {t : TypeId} {cs : Array Value} (h : Has w g t cs) (k : Bex D w w') (hg : g ≠ D) : Has w' g t cs := by
  unfold Has; rw [k.block g h.size_ hg]; exact h
set_option maxRecDepth 100000 in
set_option maxHeartbeats 4000000 in
theorem path_ok (p : Option Addr) (n : Nat) (l : List (Nat × Nat)) (cap a b : Nat) (w : World) (hG : Gr w p n l) (ha : a < n) (hb : b < n) :
    Calls Try.prog 26 #[.int .i64 n, .slice p l.length cap, .int .i64 a, .int .i64 b] w fun e w' => ∃ f, Sp (nbr l n (adj l (List.range l.length))) minus1 f b ∧ Below w.heap.size w w' ∧
      (f a < 0 → e = .returned (.tuple #[.slice none 0 0, .int .i64 12])) ∧ (0 ≤ f a → ∃ v, e = .returned (.tuple #[v, .int .i64 0]) ∧ Own w.heap.size w' v (gp l (adj l (List.range l.length)) f (f a).toNat a)) := by
  have hn := hG.2.2.1
  have hm := hG.2.1
  have wa : wi (a : Int) (n : Int) = true := by simp [wi]; omega
  have wb : wi (b : Int) (n : Int) = true := by simp [wi]; omega
  have hWa := fun W => within_any (a : Int) (n : Int) W
  have hWb := fun W => within_any (b : Int) (n : Int) W
  rw [wa] at hWa
  rw [wb] at hWb
  have q1 : (0 : Int) ≤ (a : Int) := by omega
  have q2 : (a : Int) < (n : Int) := by omega
  go_enter Try.func26, Try.ntmps26
  go_wp2_with (first
    | (go_at_call 14; (with_reducible refine (valid_ok cap hG).mono ?_); rintro e w1 ⟨rfl, b1⟩)
    | (go_at_call 43; (with_reducible refine (hWa _).mono ?_); rintro e wz ⟨rfl, rfl⟩)
    | (go_at_call 43; (with_reducible refine (hWb _).mono ?_); rintro e wz ⟨rfl, rfl⟩)
    | (go_at_call 53; (with_reducible refine (indices_any p l.length cap _ hm).mono ?_); rintro e w2 ⟨rfl, r2, b2⟩)
    | (go_at_call 57; refine (newreach_any p n l cap _ (List.range l.length) _ ((hG.on b1).on b2) r2 (fun i hi => List.mem_range.1 hi) (by simp; omega)).mono ?_; rintro e w3 ⟨G, D, rfl, hwD, g3, R3, b3⟩))
  obtain ⟨A, hAd⟩ : ∃ A, A = adj l (List.range l.length) := ⟨_, rfl⟩
  rw [← hAd] at g3
  have hlen : ∀ v, (A v).length ≤ 4000 := fun v => by rw [hAd]; exact Nat.le_trans (adj_len _ _ _) (by simp; omega)
  have hmem : ∀ v, v < n → ∀ i ∈ A v, ∃ x, l[i]? = some x ∧ (x.1 = v ∨ x.2 = v) := fun v _ i hi => by rw [hAd] at hi; exact (adj_mem hi).2
  have bw3 : Below w.heap.size w w3 := belows (belows b1 b2) b3
  have bD : w.heap.size ≤ D := Nat.le_trans (belows b1 b2).size hwD
  have a3 := al1 w3 (.cells #[.slice p l.length cap, .slice (some ⟨G, 0, none⟩) n n, .slice (some ⟨D, 0, none⟩) n n] 76)
  have H3 := Has.new_ w3 76 #[.slice p l.length cap, .slice (some ⟨G, 0, none⟩) n n, .slice (some ⟨D, 0, none⟩) n n]
  have Dlt : D < w3.heap.size := Has.size_ R3
  have g4 := g3.on (a3.mono (Nat.le_of_lt Dlt))
  have R4 := Has.on R3 a3
  refine (spread_any p l n A minus1 b D G cap _ g4 R4 hmem hlen hb (by simp [minus1]) (fun v _ => rfl) (fun v => by rw [un_minus1]; simp [minus1]) (fun v u _ _ => by simp [minus1])).mono ?_
  rintro e w4 ⟨rfl, f, R5, S5, X5, K5⟩
  have H5 := has_bex H3 K5 (by omega)
  have g5 := g4.on (K5.below (Nat.le_refl _) (by have := a3.size; omega))
  have bw4 : Below w.heap.size w w4 := (bw3.trans (a3.mono bw3.size)).trans (K5.below bD (Nat.le_trans bw3.size a3.size))
  have h0 := H5.read 0
  have h1 := H5.read 1
  have h2 := H5.read 2
  have cA := Row.read R5 ha
  have HA := Lib.hid hAd
  clear hAd g3 R3 a3 H3 g4 R4 K5 b1 b2 b3 bw3 r2
  by_cases hneg : f a < 0
  · go_wp2
    exact bodyPost_ret (v := .tuple #[.slice none 0 0, .int .i64 12]) (by simp [results, Try.results26, go_sem]) rfl ⟨f, HA.out ▸ S5, bw4, fun _ => rfl, fun h => absurd hneg (by omega)⟩
  · have hpos : 0 ≤ f a := by omega
    have hl : ∀ x ∈ l, x.1 < n ∧ x.2 < n ∧ x.1 ≠ x.2 := hG.2.2.2
    have S6 : Sp (nbr l n (adj l (List.range l.length))) minus1 f b := HA.out ▸ S5
    go_wp2
    go_loopg [11, 12] (f a).toNat (fun kk v11 v12 wr => ∃ (v : Nat) (ds : List Nat), v12 = .int .i64 v ∧ v < n ∧ Hid (New minus1 f v) ∧ Hid ((f v).toNat ≤ kk) ∧ Hid (Own w4.heap.size wr v11 ds) ∧ Hid (ds ++ gp l A f (f v).toNat v = gp l A f (f a).toNat a) ∧ Hid (ds.length + (f v).toNat ≤ (f a).toNat) ∧ Below w4.heap.size w4 wr)
    case atStart => exact ⟨a, [], rfl, ha, Lib.hid (new_iff hpos), Lib.hid (Nat.le_refl _), Lib.hid (World.ownsRow_nil _ _ _ _), Lib.hid rfl, Lib.hid (by simp), Below.refl _ _⟩
    case round =>
      obtain ⟨v, ds, rfl, hv, hN, hkk, hO, hE, hL, hB⟩ := hrel
      by_cases hvb : v = b
      · have t1 : ((v : Int) != (b : Int)) = false := by simp [hvb]
        have ez : f v = 0 := by rw [hvb]; exact S6.s
        have hfin : ds = gp l A f (f a).toNat a := by
          have := hE.out
          rw [ez] at this
          simpa [gp] using this
        have HF := Lib.hid hfin
        have HV := Lib.hid hvb
        clear hvb ez hfin
        go_wp2
        refine bodyPost_ret (v := .tuple #[_, .int .i64 0]) (by simp [results, Try.results26, go_sem]; rfl) rfl ⟨f, S6, bw4.trans (hB.mono bw4.size), fun h => absurd h (by omega), fun _ => ⟨_, rfl, ?_⟩⟩
        rw [← HA.out, ← HF.out]
        exact hO.out.mono bw4.size
      · have t1 : ((v : Int) != (b : Int)) = true := by simp; omega
        have near := sp_near hl S6 hN.out hvb
        rw [← HA.out] at near
        obtain ⟨k0, hk⟩ := fst_some near
        obtain ⟨kl, hg, hfind⟩ := fst_get hk
        obtain ⟨i0, hi0⟩ : ∃ i0, i0 = (A v)[k0] := ⟨_, rfl⟩
        rw [← hi0] at hg hfind
        have hi1 : (A v)[k0]? = some i0 := by rw [List.getElem?_eq_getElem kl, hi0]
        have him : i0 ∈ A v := by rw [hi0]; exact List.getElem_mem kl
        obtain ⟨x, hx, hxv⟩ := hmem v hv i0 him
        have step := sp_step hl (fun v u _ _ => by simp [minus1]) S6 hN.out hv (HA.out ▸ him) hx hg
        have hfe := step.2.1
        have hf0 := step.1.2
        have em : (f v).toNat = (f (oth x v)).toNat + 1 := by omega
        have eg : gp l A f (f v).toNat v = i0 :: gp l A f (f (oth x v)).toNat (oth x v) := by
          rw [em, gp, hfind]
          simp only [hx]
        have hil : i0 < l.length := (List.getElem?_eq_some_iff.1 hx).1
        have hxe : l[i0] = x := (List.getElem?_eq_some_iff.1 hx).2
        have hNr := fun W (bW : Below w4.heap.size w4 W) => nearer_any p l n A f v k0 D D G cap W (g5.on (bW.mono (by have := Has.size_ R5; omega))) (Has.on R5 bW) (hmem v hv) (hlen v) hv hk hi1
        obtain ⟨a0, rfl, -, -, l1, l2, ne⟩ := (hG.on bw4).at hil
        have hD := fun W (bW : Below w4.heap.size w4 W) => (hG.on (bw4.trans (bW.mono bw4.size))).at hil
        rw [hxe] at l1 l2 ne
        obtain ⟨x1, x2⟩ := x
        simp only at l1 l2 ne
        have dd : ∀ W, Below w4.heap.size w4 W → W.cell? (a0.add (i0 * 2)) = some (.int .i64 (x1 : Nat)) ∧ W.cell? ⟨(a0.add (i0 * 2)).block, (a0.add (i0 * 2)).off + 1, none⟩ = some (.int .i64 (x2 : Nat)) := fun W bW => by
          obtain ⟨a1, e1, d0, d1, -⟩ := hD W bW
          cases e1
          rw [hxe] at d0 d1
          exact ⟨d0, d1⟩
        have hF := fun W => far_any x1 x2 v W
        obtain ⟨u, hu⟩ : ∃ u, u = oth (x1, x2) v := ⟨_, rfl⟩
        rw [← hu] at hF
        have hun : u < n := by rw [hu]; exact step.2.2
        have hNu : Hid (New minus1 f u) := Lib.hid (by rw [hu]; exact step.1)
        have HK2 : Hid ((f u).toNat < gk) := Lib.hid (by have := hkk.out; rw [hu]; omega)
        have HE2 : Hid (ds ++ [i0] ++ gp l A f (f u).toNat u = gp l A f (f a).toNat a) := Lib.hid (by have := hE.out; rw [eg] at this; rw [hu]; simpa using this)
        have HL2 : Hid ((ds ++ [i0]).length + (f u).toNat ≤ (f a).toNat) := Lib.hid (by have := hL.out; rw [List.length_append, hu]; simp; omega)
        have dl : ds.length ≤ 1000 := by
          have h1 := hL.out
          have h2 := X5 a
          omega
        have H6 := Has.on H5 hB
        have s0 := H6.read 0
        have s1 := H6.read 1
        have s2 := H6.read 2
        have q3 : (0 : Int) ≤ (i0 : Int) := by omega
        have q4 : (i0 : Int) < (l.length : Int) := by omega
        obtain ⟨j0, hj, hz0, hz1, hz2⟩ := info_parts info3
        clear hE hkk hN hL hD near hk hfind hg hi0 hi1 him hx hxv step hfe hf0 em eg hu h0 h1 h2 cA H6
        go_wp2_with (first
          | (go_at_call 59; (with_reducible refine (hNr _ hB).mono ?_); rintro e w5 ⟨rfl, hb5⟩; have B5 := belows hB hb5; have O5 := Lib.hid (own_on hO.out hb5); clear hb5)
          | (at_builtin; refine wpList_append_own_at _ rfl _ _ 29 rfl w4.heap.size 3 j0 _ 1 8 Try.underlying29 hj hz0 hz1 hz2 rfl (by decide) _ ds.length (ints ds) rfl (own_on O5.out (al1 _ _)) ⟨_, 0, none⟩ 1 1 [.int .i64 (i0 : Int)] rfl rfl (cell_one_new _ _ _) (by simp [Value.oneCell']) (by unfold maxLen; omega) (by omega) (Nat.le_trans B5.size (al1 _ _).size) ?_))
        intro v' w6 o1 o2 o3 o4
        have O6 : Own w4.heap.size w6 v' (ds ++ [i0]) := by
          unfold Own
          rw [ints_app, List.length_append]
          exact o1
        have B6 : Below w4.heap.size w4 w6 := (B5.alloc B5.size _).grown o2 (Nat.le_trans B5.size (al1 _ _).size) (fun j hj => (World.ownsRow.lt O5.out _ hj).1)
        have dz := dd w6 B6
        have HO6 := Lib.hid O6
        clear o1 o2 o3 o4 O6 s0 s1 s2
        obtain ⟨d0, d1⟩ := dz
        go_wp2_with (go_at_call 55; (with_reducible refine (hF _).mono ?_); rintro e w7 ⟨rfl, hb7⟩)
        go_roundg (f u).toNat
        case measure => exact HK2.out
        case rel => exact ⟨u, ds ++ [i0], rfl, hun, hNu, Lib.hid (Nat.le_refl _), Lib.hid (own_on HO6.out hb7), HE2, HL2, belows B6 hb7⟩
end Go.Proofs.Ytampfciacjifgaa
