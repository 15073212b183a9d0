/- Parts. -/
import Derived.Test.YtepcokgpepcccaaDoorNst
import Derived.Test.YtepcokgpepcccaaDoorPk2
namespace Go.Proofs.YtepcokgpepcccaaDoor
open Go.ChangeShapes Go.WideShapes Go.ChangeAt Go.RowKit
set_option linter.unusedVariables false
set_option linter.unusedSimpArgs false

def SF (zs : List Int) (s : Nat) : Int := sm zs s zs.length
def MF (zs : List Int) : Nat → Nat := mtab (sums zs) (2 ^ zs.length)
def lists (ps : List Nat) : List (List Int) := ps.map fun p => toZ (ixs 10 p)
theorem SF_adds (zs : List Int) : Adds (SF zs) := sm_adds zs zs.length
theorem MF_counts (zs : List Int) (h : zs.length ≤ 10) : Counts (SF zs) (MF zs) (2 ^ zs.length) := by
  have hN : 2 ^ zs.length ≤ 1024 := Nat.pow_le_pow_right (n := 2) (by omega) h
  exact mtab_pack (SF_adds zs) (sums zs) _ hN (fun s hs => sums_getD zs s hs) _ (Nat.le_refl _)
theorem MF_le (zs : List Int) (h : zs.length ≤ 10) (j : Nat) : MF zs j ≤ 1024 := by
  have hN : 2 ^ zs.length ≤ 1024 := Nat.pow_le_pow_right (n := 2) (by omega) h
  exact Nat.le_trans (mtab_le _ _ _) hN
/-- The whole set. -/
def allS (zs : List Int) : Nat := 2 ^ zs.length - 1
/-- What Parts answers. -/
def ppost (B : Nat) (w : World) (zs : List Int) (e : Ending) (w' : World) : Prop :=
  Below B w w' ∧ (fau zs ≠ 0 → e = .returned (.tuple #[.slice none 0 0, .int .i64 (fau zs)])) ∧
  (fau zs = 0 → SF zs (allS zs) ≠ 0 → e = .returned (.tuple #[.slice none 0 0, .int .i64 18])) ∧
  (fau zs = 0 → SF zs (allS zs) = 0 → ∃ ps vs v, Pts (SF zs) (MF zs) (allS zs) ps ∧ e = .returned (.tuple #[v, .int .i64 0]) ∧ Nst B w' v (lists ps) vs)
theorem ppost_bad {B : Nat} {w w' : World} {zs : List Int} {e : Ending} (hb : Below B w w') (h : fau zs ≠ 0) (he : e = .returned (.tuple #[.slice none 0 0, .int .i64 (fau zs)])) : ppost B w zs e w' := ⟨hb, fun _ => he, fun k => absurd k h, fun k => absurd k h⟩
theorem ppost_none {B : Nat} {w w' : World} {zs : List Int} {e : Ending} (hb : Below B w w') (h : fau zs = 0) (hs : SF zs (allS zs) ≠ 0) (he : e = .returned (.tuple #[.slice none 0 0, .int .i64 18])) : ppost B w zs e w' := ⟨hb, fun k => absurd h k, fun _ _ => he, fun _ k => absurd k hs⟩
theorem ppost_some {B : Nat} {w w' : World} {zs : List Int} {e : Ending} {ps : List Nat} {vs : List Value} {v : Value} (hb : Below B w w') (h : fau zs = 0) (hs : SF zs (allS zs) = 0) (hp : Pts (SF zs) (MF zs) (allS zs) ps) (he : e = .returned (.tuple #[v, .int .i64 0])) (hv : Nst B w' v (lists ps) vs) : ppost B w zs e w' := ⟨hb, fun k => absurd h k, fun _ k => absurd hs k, fun _ _ => ⟨ps, vs, v, hp, he, hv⟩⟩
theorem ixs10_len (s : Nat) : (ixs 10 s).length ≤ 10 := ixs_len 10 s
/-- One more part. -/
theorem part_step {zs : List Int} {r : Nat} (hl : zs.length ≤ 10) (hr : r < 2 ^ zs.length) (h0 : r ≠ 0) (hz : SF zs r = 0) {p : Nat} (hp : IsFirst (cand (SF zs) (MF zs) r) p) : p ≠ 0 ∧ Sub p r ∧ SF zs (r - p) = 0 := by
  have hN : 2 ^ zs.length ≤ 1024 := Nat.pow_le_pow_right (n := 2) (by omega) hl
  obtain ⟨t, ht⟩ := cand_ex (SF_adds zs) (MF_counts zs hl) hN hr h0 hz
  have p0 := (hp.2 t ht).1
  rcases hp.1 with e | c
  · exact absurd e p0
  · refine ⟨p0, c.1, ?_⟩
    have := (SF_adds zs).2 r p c.1
    have := c.2.2.1
    omega
theorem most_ex (N cap : Nat) (a : Addr) (S : List Int) (w : World) (hN : N ≤ 1024) (hS : S.length = N) (h3 : ∀ j (h : j < S.length), w.cell? (a.add j) = some (.int .i64 S[j])) :
    Calls Tryd.prog 55 #[.slice (some a) N cap] w fun e w' => ∃ g, e = .returned (.slice (some ⟨g, 0, none⟩) N N) ∧ g < w'.heap.size ∧ (∀ j, j < N → w'.cell? ⟨g, j, none⟩ = some (.int .i64 ((mtab S N j : Nat) : Int))) ∧ Below w.heap.size w w' := by
  refine (most_any N cap a S w hN hS h3).mono ?_
  rintro e w' ⟨rfl, hr, hb⟩
  exact ⟨_, rfl, Has.size_ hr, fun j hj => hr.read hj, hb⟩
theorem fpart_ex (zs : List Int) (N r c1 c2 g1 g2 : Nat) (w : World) (hl : zs.length ≤ 10) (hN : N = 2 ^ zs.length) (hr : r < N) (h0 : r ≠ 0) (hz : SF zs r = 0)
    (h1 : ∀ j, j < N → w.cell? ⟨g1, j, none⟩ = some (.int .i64 (SF zs j))) (h2 : ∀ j, j < N → w.cell? ⟨g2, j, none⟩ = some (.int .i64 ((MF zs j : Nat) : Int))) :
    Calls Tryd.prog 56 #[.slice (some ⟨g1, 0, none⟩) N c1, .slice (some ⟨g2, 0, none⟩) N c2, .int .u64 r] w fun e w' => ∃ p : Nat, e = .returned (.int .u64 p) ∧ Hid (IsFirst (cand (SF zs) (MF zs) r) p) ∧ p < 1024 ∧ p ≠ 0 ∧ p ≤ r ∧ Hid (Sub p r) ∧ Hid (SF zs (r - p) = 0) ∧ Below w.heap.size w w' := by
  subst hN
  have hN : 2 ^ zs.length ≤ 1024 := Nat.pow_le_pow_right (n := 2) (by omega) hl
  refine (firstPart_any _ r c1 c2 ⟨g1, 0, none⟩ ⟨g2, 0, none⟩ (SF zs) (MF zs) w hN hr h0 (MF_le zs hl) (fun j hj => by rw [Addr.add_lit, Nat.zero_add]; exact h1 j hj) (fun j hj => by rw [Addr.add_lit, Nat.zero_add]; exact h2 j hj)).mono ?_
  rintro e w' ⟨p, rfl, hp, hpl, n, rfl⟩
  obtain ⟨p0, ps, pz⟩ := part_step hl hr h0 hz hp
  exact ⟨p, rfl, Lib.hid hp, hpl, p0, ps.le, Lib.hid ps, Lib.hid pz, below_drewN (Below.refl _ _) n⟩
theorem ind_ex (s0 : Nat) (w : World) (hs0 : s0 < 1024) (hT : Tab w) :
    Calls Tryd.prog 57 #[.int .u64 s0] w fun e w' => ∃ q n c, e = .returned (.slice q n c) ∧ Hid (OwnZ w.heap.size w' (.slice q n c) (toZ (ixs 10 s0))) ∧ Below w.heap.size w w' := by
  refine (indices_any s0 w hs0 hT).mono ?_
  rintro e w' ⟨v, rfl, h, hb⟩
  obtain ⟨q, c, e, k⟩ := h.cell
  subst e
  exact ⟨q, _, c, rfl, Lib.hid h, hb⟩
theorem Nst.mono {B B' : Nat} {w : World} {v : Value} {ls : List (List Int)} {vs : List Value} (h : Nst B' w v ls vs) (hb : B ≤ B') : Nst B w v ls vs := by
  refine ⟨?_, h.len, fun i u xs a b => ⟨(h.own i u xs a b).1.mono hb, (h.own i u xs a b).2⟩⟩
  obtain ⟨hl, h0 | ⟨g, cap, cur, rfl, hB, r⟩⟩ := h.row
  · exact ⟨hl, .inl h0⟩
  · exact ⟨hl, .inr ⟨g, cap, cur, rfl, Nat.le_trans hb hB, r⟩⟩
set_option maxRecDepth 100000 in
set_option maxHeartbeats 4000000 in
theorem parts_any (u : Value) (zs : List Int) (w : World) (hR : Rdz w u zs) (hT : Tab w) (hl : fau zs = 0 → zs.length ≤ 10) :
    Calls Tryd.prog 24 #[u] w (ppost w.heap.size w zs) := by
  obtain ⟨j0, hj, hy0, hy1, hy2⟩ := info_parts info22
  have hf := fun w h => fault_any u zs w h
  have b0 := Below.refl w.heap.size w
  go_enter Tryd.func24, Tryd.ntmps24
  by_cases h0 : fau zs = 0
  · rw [h0] at hf
    have hlen := hl h0
    have hz := (fau_zero h0).2
    have hN2 : 2 ^ zs.length ≤ 1024 := Nat.pow_le_pow_right (n := 2) (by omega) hlen
    have hN1 : 1 ≤ 2 ^ zs.length := Nat.one_le_two_pow
    have hs := fun w h => sumsOf_ex u zs w h hlen hz
    have hFP := fun N r c1 c2 g1 g2 w => fpart_ex zs N r c1 c2 g1 g2 w hlen
    have hSl := sums_len zs
    have hcell : ∀ j (h : j < (sums zs).length), (sums zs)[j] = SF zs j := fun j h => sums_at zs j h
    have HH0 := Lib.hid h0
    have hA : allS zs = 2 ^ zs.length - 1 := rfl
    have hMF : MF zs = mtab (sums zs) (2 ^ zs.length) := rfl
    have PN := fun w' (e : Ending) => ppost_none (B := w.heap.size) (w := w) (w' := w') (zs := zs) (e := e)
    have PS := fun w' (e : Ending) ps vs v => ppost_some (B := w.heap.size) (w := w) (w' := w') (zs := zs) (e := e) (ps := ps) (vs := vs) (v := v)
    obtain ⟨A, hAA⟩ : ∃ A, allS zs = A := ⟨_, rfl⟩
    rw [hAA] at hA PN PS
    obtain ⟨N, hN⟩ : ∃ N, 2 ^ zs.length = N := ⟨_, rfl⟩
    have HN := Lib.hid hN
    have hFP := fun r c1 c2 g1 g2 w => hFP N r c1 c2 g1 g2 w hN.symm
    rw [hN] at hs hSl hN2 hN1 hA hMF
    clear hN hAA
    have W1 : IntKind.i64.wrap ((N : Int) - 1) = (A : Int) := by rw [IntWalk.i64_in _ (by omega)]; omega
    have W2 : IntKind.u64.wrap (A : Int) = (A : Int) := by rw [IntKind.wrap_u64]; omega
    have hAN : A < N := by omega
    have HA := Lib.hid hA
    clear hA
    have q1 : (0 : Int) ≤ (A : Int) := by omega
    have q2 : (A : Int) < (N : Int) := by omega
    have hME := fun N c a w h1 h2 h3 => most_ex N c a (sums zs) w h1 h2 h3
    by_cases hzA : SF zs A = 0
    · have gz : (SF zs A != 0) = false := by simp [hzA]
      go_wp2_with (first
        | (go_at_call 38; (with_reducible refine (hf _ hR).mono ?_); rintro e1 w1 ⟨rfl, hw⟩; subst w1)
        | (go_at_call 39; (with_reducible refine (hs _ hR).mono ?_); rintro e2 w2 ⟨g, rfl, hg, hO, hb2⟩; have cA := hO.at_ (j := A) (by omega); rw [hcell] at cA)
        | (go_at_call 55; (with_reducible refine (hME N N ⟨g, 0, none⟩ w2 hN2 hSl (fun j hj => by rw [Addr.add_lit, Nat.zero_add]; exact hO.at_ hj)).mono ?_); rintro e3 w3 ⟨g3, rfl, hg3, hM3, hb3⟩))
      have C1 : Hid (∀ j, j < N → w3.cell? ⟨g, j, none⟩ = some (.int .i64 (SF zs j))) := Lib.hid fun j hj => by
        have := cell_later hb3 (hO.at_ (j := j) (by omega))
        rw [hcell] at this; exact this
      rw [← hMF] at hM3
      have C2 := Lib.hid hM3
      have hb := belows hb2 hb3
      clear hM3 hO hME cA hcell hMF hs hf
      go_loopw [8, 9] (fun v8 v9 wr => ∃ (r : Nat) (ps : List Nat) (vs : List Value), v9 = .int .u64 r ∧ r < N ∧ Hid (SF zs r = 0) ∧ Hid (Nst w3.heap.size wr v8 (lists ps) vs) ∧ Hid (∀ qs, Pts (SF zs) (MF zs) r qs → Pts (SF zs) (MF zs) A (ps ++ qs)) ∧ Hid (ps.length + r ≤ A) ∧ Below w3.heap.size w3 wr) (fun _ v _ => (intOf v).toNat)
      case atStart => exact ⟨A, [], [], rfl, hAN, Lib.hid hzA, Lib.hid (Nst.nil _ _), Lib.hid fun qs h => h, Lib.hid (by simp), Below.refl _ _⟩
      case round =>
        obtain ⟨r, ps, vs, rfl, hr, hrz, hN3, hP, hLn, hB⟩ := hrel
        by_cases hr0 : r = 0
        · subst hr0
          go_wp2
          exact bodyPost_ret (v := .tuple #[_, .int .i64 0]) (by simp [results, Tryd.results24, go_sem]) rfl (PS _ _ ps vs _ (belows hb hB) HH0.out hzA (by have := hP.out [] .nil; rwa [List.append_nil] at this) rfl (hN3.out.mono hb.size))
        · have gr : ((r : Int) != 0) = true := by simp; omega
          have hF := hFP r N N g g3 wr hr hr0 hrz.out (fun j hj => cell_later hB (C1.out j hj)) (fun j hj => cell_later hB (C2.out j hj))
          have HR0 := Lib.hid hr0
          clear hr0
          have hT2 := hT.on (belows hb hB)
          have hpl : (lists ps).length ≤ 1024 := by have := hLn.out; rw [lists, List.length_map]; omega
          go_wp2_with (first
            | (go_at_call 56; (with_reducible refine hF.mono ?_); rintro e4 w4 ⟨p, rfl, hp, hpl2, hp0, hpr, hps, hpz, hb4⟩; have hT3 := hT2.on hb4; have hI := ind_ex p w4 hpl2 hT3)
            | (go_at_call 57; (with_reducible refine hI.mono ?_); rintro e5 w5 ⟨q, n, c, rfl, hO5, hb5⟩; have hN5 := Lib.hid ((hN3.out.on hb4).on hb5))
            | (at_builtin; refine wpList_append_own_at _ rfl _ _ 39 rfl w3.heap.size 22 j0 _ 1 24 Tryd.underlying39 hj hy0 hy1 hy2 rfl (by decide) _ (lists ps).length vs rfl (own_on hN5.out.row (al1 _ _)) ⟨_, 0, none⟩ 1 1 [.slice q n c] rfl rfl (cell_one_new _ _ _) (by simp [Value.oneCell']) (by unfold maxLen; omega) (by omega) (Nat.le_trans (belows (belows hB hb4) hb5).size (al1 _ _).size) ?_))
          intro v' w6 o1 o2 o3 o4
          have hOm := hO5.out.mono (B := w3.heap.size) (Nat.le_trans hB.size hb4.size)
          have hrr : ∀ b, (Value.slice q n c).ownBlock = some b → _ ≠ some b := fun b e e' => by
            have l1 := (World.ownsRow.lt hO5.out _ e).1
            have l2 := (World.ownsRow.lt hN3.out.row _ e').2
            have l3 := hb4.size
            omega
          have N6 := Nst.push (hN5.out.on (al1 _ _)) (hOm.on (al1 _ _)) hrr o1 o2 (by simpa using o4)
          have E6 : lists ps ++ [toZ (ixs 10 p)] = lists (ps ++ [p]) := by simp [lists]
          rw [E6] at N6
          have B6 : Below w3.heap.size w3 w6 := ((belows (belows hB hb4) hb5).alloc (belows (belows hB hb4) hb5).size _).grown o2 (Nat.le_trans (belows (belows hB hb4) hb5).size (al1 _ _).size) (fun j hj => (World.ownsRow.lt hN3.out.row _ hj).1)
          have HN6 := Lib.hid N6
          have HP6 : Hid (∀ qs, Pts (SF zs) (MF zs) (r - p) qs → Pts (SF zs) (MF zs) A ((ps ++ [p]) ++ qs)) := Lib.hid fun qs h => by
            rw [List.append_assoc]
            exact hP.out _ (.cons HR0.out hp0 hp.out h)
          have HL6 : Hid ((ps ++ [p]).length + (r - p) ≤ A) := Lib.hid (by have := hLn.out; rw [List.length_append]; simp; omega)
          have hAn := bitsAndNot_nat r p hps.out (by omega)
          obtain ⟨d, hd⟩ : ∃ d, r - p = d := ⟨_, rfl⟩
          rw [hd] at HP6 HL6 hAn hpz
          have hdl : d < r := by omega
          clear o1 o2 o3 o4 N6 hOm hrr hd hP hLn hN3 hN5 hO5 E6
          go_wp2
          exact ⟨⟨d, ps ++ [p], _, rfl, by omega, hpz, HN6, HP6, HL6, B6⟩, by simp [intOf]; omega⟩
    · have gz : (SF zs A != 0) = true := by simp [hzA]
      go_wp2_with (first
        | (go_at_call 38; (with_reducible refine (hf _ hR).mono ?_); rintro e1 w1 ⟨rfl, hw⟩; subst w1)
        | (go_at_call 39; (with_reducible refine (hs _ hR).mono ?_); rintro e2 w2 ⟨g, rfl, hg, hO, hb2⟩; have cA := hO.at_ (j := A) (by omega); rw [hcell] at cA))
      exact bodyPost_ret (v := .tuple #[.slice none 0 0, .int .i64 18]) (by simp [results, Tryd.results24, go_sem]) rfl (PN _ _ hb2 HH0.out hzA rfl)
  · obtain ⟨f, ef⟩ : ∃ f, fau zs = f := ⟨_, rfl⟩
    have HB := fun e w' => ppost_bad (B := w.heap.size) (w := w) (w' := w') (zs := zs) (e := e)
    rw [ef] at hf h0 HB
    have g : (f != 0) = true := by simp [h0]
    clear ef
    go_wp2_with (go_at_call 38; (with_reducible refine (hf _ hR).mono ?_); rintro e1 w1 ⟨rfl, hw⟩; subst w1)
    exact bodyPost_ret (v := .tuple #[.slice none 0 0, .int .i64 f]) (by simp [results, Tryd.results24, go_sem]) rfl (HB _ _ b0 h0 rfl)
end Go.Proofs.YtepcokgpepcccaaDoor
