/- The search in depth finds the classes: visits, and all nodes. -/
import Derived.Test.YteofbbakegcohaaTh
import Derived.Test.YteofbbakegcohaaLm
namespace Go.Proofs.Yteofbbakegcohaa
open Go.ChangeShapes Go.WideShapes Go.ChangeAt Go.RowKit
set_option linter.unusedVariables false
set_option linter.unusedSimpArgs false


theorem tvis_inv {n : Nat} {A : Nat → List Nat} (hA : ∀ v, v < n → ∀ u ∈ A v, u < n) : ∀ (k v : Nat) (s : TS) (gr : List Nat), v < n → s.num v = 0 → zc s.num n ≤ k → Tk n s → Inv n A s gr → (∀ g ∈ gr, Rch A g v) → Pst n A s v gr (tvis n A k v s).1 (tvis n A k v s).2
  | 0, v, s, gr, hv, h0, hz, h, _, _ => by have := zc_pos h0 n hv; omega
  | k + 1, v, s, gr, hv, h0, hz, hT, hI, hg => by
    obtain ⟨a1, a2, a3, a4⟩ := tin_tk hT hv h0
    have hz1 := hT.z
    have hpos := zc_pos h0 n hv
    have hvis : s.vis + 1 ≤ n := by omega
    have I0 := tin_inv hI h0 hvis hg
    have tnew : (tin s v).num v = s.vis + 1 := upd_same _ _ _
    have F0 : Fsn n A s v gr [] (tin s v) (s.vis + 1) :=
      ⟨I0, fun x hx => rfl, Nat.lt_succ_self _, (fun y hy => by cases hy), Nat.le_refl _, .inl rfl, ⟨[], by simp [tin], (fun x hx => by cases hx), (fun x hx => by cases hx)⟩, (fun y hy => by cases hy)⟩
    have F := fsn_fold hA (tvis_inv hA k) hI h0 hvis hv (A v) [] (tin s v) (s.vis + 1) rfl a1 (by omega) F0
    have tf := tfold_td (n := n) (k := k) (A := A) (fun v s h1 h2 h3 h4 => by
      have := tvis_td hA k v s h1 h2 h3 h4
      exact ⟨this.1, this.2.1, this.2.2.2⟩) (A v) (tin s v) (s.vis + 1) (hA v hv) a1 (by omega) (by omega)
    unfold tvis
    simp only
    generalize (A v).foldl (tstp (tvis n A k)) (tin s v, s.vis + 1) = r at *
    obtain ⟨t, l⟩ := r
    simp only at F tf ⊢
    have vs : v ∉ s.stk := fun m => ((hI.s1 v).1 m).1 h0
    have old : ∀ y, y ∈ s.stk → (tin s v).num y = s.num y ∧ s.num y ≠ 0 := fun y hy => ⟨upd_other (fun e => vs (e ▸ hy)), ((hI.s1 y).1 hy).1⟩
    have told : ∀ y, y ∈ s.stk → t.num y = s.num y := fun y hy => by
      rw [F.num y (by rw [(old y hy).1]; exact (old y hy).2), (old y hy).1]
    have numv : t.num v = s.vis + 1 := by rw [F.num v (by rw [tnew]; omega), tnew]
    obtain ⟨T, eT, hT0, hT1⟩ := F.stk
    have eT2 : t.stk = s.stk ++ (v :: T) := by rw [eT]; simp
    have pres : ∀ x, s.num x ≠ 0 → t.num x = s.num x := fun x hx => by
      have hxv : x ≠ v := fun e => hx (e ▸ h0)
      have e1 : (tin s v).num x = s.num x := upd_other hxv
      rw [F.num x (by rw [e1]; exact hx), e1]
    have white : ∀ x ∈ (v :: T), s.num x = 0 := fun x hx => by
      rcases List.mem_cons.1 hx with rfl | m
      · exact h0
      · have := hT0 x m
        by_cases e : x = v
        · rw [e]; exact h0
        · rw [show (tin s v).num x = s.num x from upd_other e] at this; exact this
    have high : ∀ x ∈ (v :: T), s.vis + 1 ≤ t.num x := fun x hx => by
      rcases List.mem_cons.1 hx with rfl | m
      · rw [numv]; exact Nat.le_refl _
      · have hs := F.inv.s2
        rw [eT2, List.pairwise_append, List.pairwise_cons] at hs
        have := hs.2.1.1 x m
        rw [numv] at this; omega
    have low : ∀ y ∈ s.stk, t.num y ≤ s.vis := fun y hy => by rw [told y hy]; exact hI.s3 y hy
    have grs : ∀ g ∈ gr, g ∈ s.stk := hI.g
    have onT : ∀ y, y ∈ t.stk → t.num y < s.vis + 1 → y ∈ s.stk := fun y hy hl => by
      rw [eT2] at hy
      rcases List.mem_append.1 hy with m | m
      · exact m
      · have := high y m; omega
    have vst : v ∈ t.stk := by rw [eT2]; simp
    have memT : ∀ x ∈ (v :: T), x ∈ t.stk := fun x hx => by rw [eT2]; exact List.mem_append.2 (.inr hx)
    have vgr : v ∉ gr := fun m => vs (grs v m)
    -- all edges of the nodes that have been visited lead to visited nodes
    have blk : ∀ x ∈ (v :: T), ∀ y ∈ A x, t.num y ≠ 0 := fun x hx y hy => by
      by_cases e : x = v
      · subst e; exact F.pz y hy
      · refine F.inv.b x ((F.inv.s1 x).1 (memT x hx)).1 (fun m => ?_) y hy
        rcases List.mem_append.1 m with m | m
        · have h1 := high x hx; have h2 := low x (grs x m); omega
        · exact e (List.mem_singleton.1 m)
    have cross : ∀ x ∈ (v :: T), ∀ y ∈ A x, y ∈ s.stk → l ≤ s.num y := fun x hx y hy hys => by
      rcases List.mem_cons.1 hx with rfl | m
      · exact F.f1 y hy hys
      · exact hT1 x m y hy hys
    by_cases hl : l = s.vis + 1
    · rw [if_pos hl]
      -- the part
      have hdrop : t.stk.drop s.stk.length = v :: T := by rw [eT2]; simp
      have htake : t.stk.take s.stk.length = s.stk := by rw [eT2]; simp
      have close : ∀ x, (x ∈ (v :: T) ∨ t.num x = n + 1) → ∀ y ∈ A x, (y ∈ (v :: T) ∨ t.num y = n + 1) := fun x hx y hy => by
        rcases hx with hx | hx
        · by_cases hf : t.num y = n + 1
          · exact .inr hf
          · have hy1 := (F.inv.s1 y).2 ⟨blk x hx y hy, hf⟩
            rw [eT2] at hy1
            rcases List.mem_append.1 hy1 with m | m
            · have h1 := cross x hx y hy m
              have h2 := hI.s3 y m
              omega
            · exact .inl m
        · exact .inr (F.inv.f x hx y hy)
      have toV : ∀ x ∈ (v :: T), Rch A v x ∧ Rch A x v := fun x hx => by
        refine ⟨F.inv.dn v (by simp) x (memT x hx) (by rw [numv]; exact high x hx), ?_⟩
        obtain ⟨g, hg1, hg2, hg3⟩ := F.inv.up x (memT x hx)
        have hgs := F.inv.g g hg1
        have hgc := Rch.closed close hg3 (.inl hx)
        have hgT : g ∈ (v :: T) := by
          rcases hgc with m | m
          · exact m
          · exact absurd m ((F.inv.s1 g).1 hgs).2
        rcases List.mem_append.1 hg1 with m | m
        · have h1 := high g hgT; have h2 := low g (grs g m); omega
        · rw [← List.mem_singleton.1 m]; exact hg3
      have cls : ∀ x ∈ (v :: T), ∀ y, y ∈ (v :: T) ↔ Sam A x y := fun x hx y => by
        constructor
        · intro hy
          exact ⟨(toV x hx).2.trans (toV y hy).1, (toV y hy).2.trans (toV x hx).1⟩
        · rintro ⟨h1, h2⟩
          rcases Rch.closed close h1 (.inl hx) with m | m
          · exact m
          · exfalso
            have : t.num x = n + 1 := Rch.closed F.inv.f h2 m
            exact ((F.inv.s1 x).1 (memT x hx)).2 this
      have ndT : (v :: T).Nodup := by
        have hs := F.inv.s2
        rw [eT2, List.pairwise_append] at hs
        exact hs.2.1.imp (fun {a b} h e => by rw [e] at h; omega)
      have num' : ∀ x, (tcut n s.stk.length t).num x = if x ∈ (v :: T) then n + 1 else t.num x := fun x => by
        show (if x ∈ t.stk.drop s.stk.length then n + 1 else t.num x) = _
        rw [hdrop]
      have stk' : (tcut n s.stk.length t).stk = s.stk := htake
      have prt' : (tcut n s.stk.length t).prt = t.prt ++ [srt (v :: T)] := by
        show t.prt ++ [srt (t.stk.drop s.stk.length)] = _
        rw [hdrop]
      have notT : ∀ y ∈ s.stk, y ∉ (v :: T) := fun y hy m => by
        have h1 := high y m; have h2 := low y hy; omega
      have nfin : ∀ x, (tcut n s.stk.length t).num x = n + 1 ↔ (x ∈ (v :: T) ∨ t.num x = n + 1) := fun x => by
        rw [num']
        by_cases e : x ∈ (v :: T)
        · rw [if_pos e]; exact ⟨fun _ => .inl e, fun _ => rfl⟩
        · rw [if_neg e]; exact ⟨.inr, fun h => h.resolve_left e⟩
      have nn : ∀ x, t.num x ≠ 0 → (tcut n s.stk.length t).num x ≠ 0 := fun x hx => by
        rw [num']; split
        · omega
        · exact hx
      have keep : ∀ y ∈ s.stk, (tcut n s.stk.length t).num y = t.num y := fun y hy => by rw [num', if_neg (notT y hy)]
      refine ⟨⟨fun x => ?_, ?_, fun x hx => ?_, fun x hx => ?_, fun x hx hxg y hy => ?_, fun x hx y hy => ?_, fun y hy => ?_, fun g hg' y hy hle => ?_, fun p hp => ?_, fun x hx => ?_, ?_⟩, fun x hx => ?_, F.vis, ?_, ⟨[], ?_, (fun x hx => by cases hx), (fun x hx => by cases hx), .inl ⟨rfl, hl⟩⟩⟩
      · rw [stk']
        constructor
        · intro hx
          rw [keep x hx, told x hx]
          exact (hI.s1 x).1 hx
        · rintro ⟨h1, h2⟩
          rw [num'] at h1 h2
          by_cases e : x ∈ (v :: T)
          · rw [if_pos e] at h2; exact absurd rfl h2
          · rw [if_neg e] at h1 h2
            have := (F.inv.s1 x).2 ⟨h1, h2⟩
            rw [eT2] at this
            rcases List.mem_append.1 this with m | m
            · exact m
            · exact absurd m e
      · rw [stk']
        exact hI.s2.imp_of_mem (fun {a b} ha hb h => by rw [keep a ha, keep b hb, told a ha, told b hb]; exact h)
      · rw [stk'] at hx
        rw [keep x hx, told x hx]
        have h1 := hI.s3 x hx; have h2 := F.vis
        show s.num x ≤ t.vis
        omega
      · rw [stk']; exact grs x hx
      · by_cases e : x ∈ (v :: T)
        · exact nn y (blk x e y hy)
        · rw [num', if_neg e] at hx
          refine nn y (F.inv.b x hx (fun m => ?_) y hy)
          rcases List.mem_append.1 m with m | m
          · exact hxg m
          · exact e (by rw [List.mem_singleton.1 m]; simp)
      · exact (nfin y).2 (close x ((nfin x).1 hx) y hy)
      · rw [stk'] at hy
        obtain ⟨g, hg1, hg2, hg3⟩ := F.inv.up y (by rw [eT2]; exact List.mem_append.2 (.inl hy))
        have hgv : g ≠ v := fun e => by rw [e, numv] at hg2; have := low y hy; omega
        have hgg : g ∈ gr := by
          rcases List.mem_append.1 hg1 with m | m
          · exact m
          · exact absurd (List.mem_singleton.1 m) hgv
        exact ⟨g, hgg, by rw [keep g (grs g hgg), keep y hy]; exact hg2, hg3⟩
      · rw [stk'] at hy
        rw [keep g (grs g hg'), keep y hy] at hle
        exact F.inv.dn g (by simp [hg']) y (by rw [eT2]; exact List.mem_append.2 (.inl hy)) hle
      · rw [prt'] at hp
        rcases List.mem_append.1 hp with m | m
        · obtain ⟨b1, b2, b3, b4⟩ := F.inv.p1 p m
          exact ⟨b1, b2, b3, fun x hx => ⟨(nfin x).2 (.inr (b4 x hx).1), (b4 x hx).2⟩⟩
        · rw [List.mem_singleton.1 m]
          refine ⟨?_, srt_sorted _, ?_, fun x hx => ?_⟩
          · unfold srt
            exact (List.mergeSort_perm _ _).nodup_iff.2 ndT
          · intro e
            have := congrArg List.length e
            rw [srt_len] at this
            simp at this
          · rw [srt_mem] at hx
            refine ⟨(nfin x).2 (.inl hx), fun y => ?_⟩
            rw [srt_mem]; exact cls x hx y
      · rw [prt']
        rcases (nfin x).1 hx with m | m
        · exact ⟨srt (v :: T), by simp, (srt_mem _ _).2 m⟩
        · obtain ⟨p, hp, hxp⟩ := F.inv.p2 x m
          exact ⟨p, by simp [hp], hxp⟩
      · rw [prt', List.pairwise_append]
        refine ⟨F.inv.p3, List.pairwise_singleton _ _, fun p hp q hq x hx hxq => ?_⟩
        rw [List.mem_singleton.1 hq, srt_mem] at hxq
        exact ((F.inv.s1 x).1 (memT x hxq)).2 ((F.inv.p1 p hp).2.2.2 x hx).1
      · rw [num']
        by_cases e : x ∈ (v :: T)
        · exact absurd (white x e) hx
        · rw [if_neg e]; exact pres x hx
      · rw [num', if_pos (by simp)]; omega
      · rw [stk']; simp
    · rw [if_neg hl]
      have hlt : l ≤ s.vis := by have := F.le; omega
      obtain ⟨y', hy'1, hy'2, hy'3⟩ := F.f2.resolve_left hl
      refine ⟨⟨F.inv.s1, F.inv.s2, F.inv.s3, fun x hx => F.inv.g x (by simp [hx]), fun x hx hxg y hy => ?_, F.inv.f, fun y hy => ?_, fun g hg' => F.inv.dn g (by simp [hg']), F.inv.p1, F.inv.p2, F.inv.p3⟩, pres, F.vis, by rw [numv]; omega, ⟨v :: T, eT2, white, cross, .inr ⟨hlt, y', hy'1, hy'2, hy'3⟩⟩⟩
      · by_cases e : x = v
        · subst e; exact F.pz y hy
        · exact F.inv.b x hx (fun m => by
            rcases List.mem_append.1 m with m | m
            · exact hxg m
            · exact e (List.mem_singleton.1 m)) y hy
      · obtain ⟨g, hg1, hg2, hg3⟩ := F.inv.up y hy
        rcases List.mem_append.1 hg1 with m | m
        · exact ⟨g, m, hg2, hg3⟩
        · have hgv := List.mem_singleton.1 m
          rw [hgv] at hg2 hg3
          have hy't : y' ∈ t.stk := by rw [eT2]; exact List.mem_append.2 (.inl hy'1)
          obtain ⟨g2, k1, k2, k3⟩ := F.inv.up y' hy't
          have e2 : t.num y' = l := by rw [told y' hy'1]; exact hy'2
          have hg2v : g2 ≠ v := fun e => by rw [e, numv, e2] at k2; omega
          have hg2g : g2 ∈ gr := by
            rcases List.mem_append.1 k1 with m | m
            · exact m
            · exact absurd (List.mem_singleton.1 m) hg2v
          have w1 : t.num g2 ≤ t.num y := by
            rw [numv] at hg2; rw [e2] at k2; omega
          exact ⟨g2, hg2g, w1, (hg3.trans hy'3).trans k3⟩
theorem inv_start (n : Nat) (A : Nat → List Nat) : Inv n A ⟨0, fun _ => 0, [], []⟩ [] :=
  ⟨fun x => by simp, List.Pairwise.nil, (fun x hx => by cases hx), (fun x hx => by cases hx), (fun x hx => absurd rfl hx), (fun x hx => by cases hx), (fun y hy => by cases hy), (fun g hg => by cases hg), (fun p hp => by cases hp), (fun x hx => by cases hx), List.Pairwise.nil⟩
theorem tall_inv {n : Nat} {A : Nat → List Nat} (hA : ∀ v, v < n → ∀ u ∈ A v, u < n) : ∀ k, k ≤ n → Inv n A (tall n A k) [] ∧ ∀ v, v < k → (tall n A k).num v ≠ 0
  | 0, _ => ⟨inv_start n A, fun v h => by omega⟩
  | k + 1, h => by
    obtain ⟨h1, h2⟩ := tall_inv hA k (by omega)
    have h3 := (tall_ok hA k (by omega)).1
    unfold tall
    by_cases h0 : (tall n A k).num k = 0
    · rw [if_pos h0]
      have P := tvis_inv hA n k (tall n A k) [] (by omega) h0 (zc_le _ _) h3 h1 (fun g hg => by cases hg)
      refine ⟨P.inv, fun v hv => ?_⟩
      by_cases e : v = k
      · subst e; exact P.vz
      · rw [P.num v (h2 v (by omega))]; exact h2 v (by omega)
    · rw [if_neg h0]
      refine ⟨h1, fun v hv => ?_⟩
      by_cases e : v = k
      · subst e; exact h0
      · exact h2 v (by omega)
/-- What the parts are: the classes of nodes that reach each other, each once. -/
structure Cls (n : Nat) (A : Nat → List Nat) (ls : List (List Nat)) : Prop where
  p1 : ∀ p ∈ ls, p.Nodup ∧ p.Pairwise (· ≤ ·) ∧ p ≠ [] ∧ ∀ x ∈ p, ∀ y, y ∈ p ↔ Sam A x y
  p2 : ∀ x, x < n → ∃ p ∈ ls, x ∈ p
  p3 : ls.Pairwise (fun p q => ∀ x ∈ p, x ∉ q)
theorem tall_cls {n : Nat} {A : Nat → List Nat} (hA : ∀ v, v < n → ∀ u ∈ A v, u < n) : Cls n A (tall n A n).prt := by
  obtain ⟨h1, h2⟩ := tall_inv hA n (Nat.le_refl _)
  refine ⟨fun p hp => ?_, fun x hx => h1.p2 x ?_, h1.p3⟩
  · obtain ⟨a, b, c, d⟩ := h1.p1 p hp
    exact ⟨a, b, c, fun x hx => (d x hx).2⟩
  · by_cases e : (tall n A n).num x = n + 1
    · exact e
    · have := (h1.s1 x).2 ⟨h2 x hx, e⟩
      obtain ⟨g, hg, -⟩ := h1.up x this
      cases hg
theorem Cls.perm {n : Nat} {A : Nat → List Nat} {ls ms : List (List Nat)} (h : Cls n A ls) (hp : ms.Perm ls) : Cls n A ms :=
  ⟨fun p hq => h.p1 p (hp.mem_iff.1 hq), fun x hx => by obtain ⟨p, hq, hxp⟩ := h.p2 x hx; exact ⟨p, hp.mem_iff.2 hq, hxp⟩, (hp.pairwise_iff (fun {a b} k x hx hxa => k x hxa hx)).2 h.p3⟩
end Go.Proofs.Yteofbbakegcohaa
