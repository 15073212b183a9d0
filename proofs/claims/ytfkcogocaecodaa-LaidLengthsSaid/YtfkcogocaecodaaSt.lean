/- Moved bars and bars of one run (pure). -/
import Derived.Test.YtfkcogocaecodaaRs2
import Derived.Deep.CutBlock
namespace Go.Proofs.Ytfkcogocaecodaa
open Go.ChangeShapes Go.WideShapes Go.ChangeAt Go.RowKit
set_option linter.unusedVariables false
set_option linter.unusedSimpArgs false

/-- A box that is moved. -/
def shB (d : Pt) (b : Bx) : Bx := ⟨b.a + d.x, b.b + d.y, b.c + d.z, b.d + d.x, b.e + d.y, b.f + d.z⟩
def mvP (d : Pt) (x : ByteArray × List Pt) : ByteArray × List Pt := (x.1, mvd d x.2)
theorem mvd_comm (s d : Pt) (l : List Pt) : mvd s (mvd d l) = mvd d (mvd s l) := by
  unfold mvd
  rw [List.map_map, List.map_map]
  refine List.map_congr_left fun p _ => ?_
  simp only [Function.comp_apply, adp, Pt.mk.injEq]
  refine ⟨?_, ?_, ?_⟩ <;> omega
theorem fst_mov (d : Pt) (b : Bar) (r : Rn) : fst b (movR d r) = mvd d (fst b r) := by
  unfold mvd fst Fm.psL movR atR
  rw [List.map_map]
  refine List.map_congr_left fun p _ => ?_
  simp only [Function.comp_apply, Fm.ad, adp, Pt.mk.injEq]
  refine ⟨?_, ?_, ?_⟩ <;> omega
theorem bpts_mov (d : Pt) (b : Bar) (r : Rn) (k : Nat) : bpts b (movR d r) k = mvd d (bpts b r k) := by
  unfold bpts
  rw [fst_mov]
  exact mvd_comm _ _ _
theorem layR_mov (l : List Bar) (d : Pt) (r : Rn) : layR l (movR d r) = (layR l r).map (mvP d) := by
  unfold layR
  rw [show (movR d r).mark = r.mark from rfl]
  cases h : barOf l r.mark with
  | none => rfl
  | some b =>
    dsimp only
    unfold rpaths
    rw [List.map_map, show (movR d r).ct = r.ct from rfl, show (movR d r).mark = r.mark from rfl]
    refine List.map_congr_left fun k _ => ?_
    simp only [Function.comp_apply, mvP, bpts_mov]
theorem lay_mov (l : List Bar) (d : Pt) : ∀ rs : List Rn, lay l (rs.map (movR d)) = (lay l rs).map (mvP d)
  | [] => rfl
  | r :: rs => by
    have e1 : lay l ((r :: rs).map (movR d)) = layR l (movR d r) ++ lay l (rs.map (movR d)) := by simp [lay]
    have e2 : lay l (r :: rs) = layR l r ++ lay l rs := by simp [lay]
    rw [e1, e2, List.map_append, layR_mov, lay_mov l d rs]
theorem lg_two {P : List Pt} {k : Nat} (hk : k + 1 < P.length) : lg P k = hullB (bxp P[k]) (bxp P[k + 1]) := by
  unfold lg
  rw [List.drop_eq_getElem_cons (show k < P.length by omega), List.drop_eq_getElem_cons hk]
  rfl
theorem hull_sh (p q d : Pt) : hullB (bxp (adp p d)) (bxp (adp q d)) = shB d (hullB (bxp p) (bxp q)) := by
  unfold hullB bxp shB adp mn mx
  simp only [Bx.mk.injEq]
  refine ⟨?_, ?_, ?_, ?_, ?_, ?_⟩ <;> (split <;> split <;> omega)
theorem lgsP_mvd (d : Pt) (P : List Pt) : lgsP (mvd d P) = (lgsP P).map (shB d) := by
  unfold lgsP
  rw [mvd_len, List.map_map]
  refine List.map_congr_left fun k hk => ?_
  have h := List.mem_range.1 hk
  rw [lg_two (P := mvd d P) (k := k) (by rw [mvd_len]; omega)]
  simp only [Function.comp_apply]
  rw [lg_two (P := P) (k := k) (by omega)]
  have e : ∀ j (h : j < P.length), (mvd d P)[j]'(by rw [mvd_len]; exact h) = adp P[j] d := fun j h => by simp [mvd]
  rw [e k (by omega), e (k + 1) (by omega)]
  exact hull_sh _ _ _
/-- All six of a box lie in bounds. -/
def Bx.bd (b : Bx) (L : Int) : Prop := (-L ≤ b.a ∧ b.a ≤ L) ∧ (-L ≤ b.b ∧ b.b ≤ L) ∧ (-L ≤ b.c ∧ b.c ≤ L) ∧ (-L ≤ b.d ∧ b.d ≤ L) ∧ (-L ≤ b.e ∧ b.e ≤ L) ∧ (-L ≤ b.f ∧ b.f ≤ L)
theorem lgsP_bd {P : List Pt} (h : P.all (inB 1048576) = true) {b : Bx} (hb : b ∈ lgsP P) : b.bd 1048576 := by
  unfold lgsP at hb
  obtain ⟨k, hk, rfl⟩ := List.mem_map.1 hb
  have hk' := List.mem_range.1 hk
  rw [lg_two (by omega)]
  have h1 := inB_bd.1 (List.all_eq_true.1 h _ (List.getElem_mem (show k < P.length by omega)))
  have h2 := inB_bd.1 (List.all_eq_true.1 h _ (List.getElem_mem (show k + 1 < P.length by omega)))
  generalize P[k] = p at *
  generalize P[k + 1] = q at *
  unfold Pt.bd at h1 h2
  unfold Bx.bd hullB bxp mn mx
  dsimp only
  refine ⟨?_, ?_, ?_, ?_, ?_, ?_⟩ <;> (split <;> omega)
theorem lay_step {l : List Bar} {rs : List Rn} (hfit : ∀ r ∈ rs, fitsM l r = true) {kr : Nat} (hk : kr < rs.length) {k0 j : Nat} (e : (k0 : Int) = totR (rs.take kr) + j) (hj : (j : Int) + 1 < rs[kr].ct) {x : ByteArray × List Pt} (hx : (lay l rs)[k0]? = some x) :
    (lay l rs)[k0 + 1]? = some (mvP rs[kr].st x) ∧ rs[kr].st.bd 2097152 := by
  obtain ⟨b, hb, hf⟩ := fitsM_bar (hfit _ (List.getElem_mem hk))
  have h1 := lay_len (l := l) (rs := rs.take kr) fun r hr => hfit r (List.mem_of_mem_take hr)
  have e2 : layR l rs[kr] = rpaths b rs[kr] := by unfold layR; rw [hb]
  have e3 : (rpaths b rs[kr]).length = rs[kr].ct.toNat := by simp [rpaths]
  have ek : k0 = (lay l (rs.take kr)).length + j := by omega
  have at_ : ∀ m : Nat, (m : Int) < rs[kr].ct → (lay l rs)[(lay l (rs.take kr)).length + m]? = some (rs[kr].mark, bpts b rs[kr] m) := fun m hm => by
    rw [lay_split hk, e2, List.getElem?_append_left (by rw [List.length_append, e3]; omega), List.getElem?_append_right (by omega), Nat.add_sub_cancel_left]
    exact rpaths_at b rs[kr] (by omega)
  rw [ek, at_ j (by omega)] at hx
  have hx' := Option.some.inj hx
  rw [ek, Nat.add_assoc, at_ (j + 1) (by omega), ← hx']
  refine ⟨?_, ?_⟩
  · unfold mvP
    rw [bpts_succ]
  · rcases (fitsB_and hf).2.2.1 with h | h
    · omega
    · exact h
theorem legsC_or (l : List Bar) (rs : List Rn) (i : Int) : (∃ c, (c = 1 ∨ c = 2) ∧ legsC l rs i = ([], c)) ∨ (validR l rs = true ∧ ∃ (k0 : Nat) (x : ByteArray × List Pt), i = (k0 : Int) ∧ (lay l rs)[k0]? = some x ∧ legsC l rs i = (lgsP x.2, 0)) := by
  unfold legsC
  cases hv : validR l rs
  · exact .inl ⟨1, .inl rfl, by simp⟩
  · cases hn : layAt l rs i with
    | none => exact .inl ⟨2, .inr rfl, by simp⟩
    | some x =>
      unfold layAt at hn
      split at hn
      · rename_i h0
        exact .inr ⟨rfl, i.toNat, x, by omega, hn, by simp⟩
      · cases hn
theorem legsC_some {l : List Bar} {rs : List Rn} (hv : validR l rs = true) {k : Nat} {x : ByteArray × List Pt} (hx : (lay l rs)[k]? = some x) : legsC l rs (k : Int) = (lgsP x.2, 0) := by
  have hn : layAt l rs (k : Int) = some x := by
    unfold layAt
    rw [if_pos (by omega : (0 : Int) ≤ (k : Int)), show ((k : Int)).toNat = k by omega, hx]
  unfold legsC
  rw [hv, hn]; rfl
theorem legs_next {l : List Bar} {rs : List Rn} (hv : validR l rs = true) {kr : Nat} (hk : kr < rs.length) {k0 j : Nat} (e : (k0 : Int) = totR (rs.take kr) + j) (hj : (j : Int) + 1 < rs[kr].ct) {x : ByteArray × List Pt} (hx : (lay l rs)[k0]? = some x) :
    legsC l rs ((k0 : Int) + 1) = ((lgsP x.2).map (shB rs[kr].st), 0) ∧ rs[kr].st.bd 2097152 := by
  obtain ⟨h1, h2⟩ := lay_step (validR_and hv).2.2.1 hk e hj hx
  refine ⟨?_, h2⟩
  have h3 := legsC_some hv h1
  rw [show ((k0 : Int) + 1) = ((k0 + 1 : Nat) : Int) by omega, h3]
  unfold mvP
  rw [lgsP_mvd]
theorem legs_mov {l : List Bar} {rs : List Rn} {d : Pt} (hv : validR l (rs.map (movR d)) = true) {k0 : Nat} {x : ByteArray × List Pt} (hx : (lay l rs)[k0]? = some x) :
    legsC l (rs.map (movR d)) (k0 : Int) = ((lgsP x.2).map (shB d), 0) := by
  have h1 : (lay l (rs.map (movR d)))[k0]? = some (mvP d x) := by rw [lay_mov, List.getElem?_map, hx]; rfl
  rw [legsC_some hv h1]
  unfold mvP
  rw [lgsP_mvd]
theorem legs_inv {l : List Bar} {rs : List Rn} (hv : validR l rs = false) (i : Int) : legsC l rs i = ([], 1) := by
  unfold legsC; rw [hv]; rfl
theorem movC_or {rs : List Rn} (h : rs.length ≤ 60) (d : Pt) : movC rs d = ([], 2) ∨ (movC rs d = (rs.map (movR d), 0) ∧ d.bd 2097152 ∧ ∀ r ∈ rs, okM d r = true) := by
  unfold movC
  rw [if_neg (by omega)]
  split
  · exact .inl rfl
  · rename_i hd
    split
    · rename_i ha
      exact .inr ⟨rfl, inB_bd.1 (by simpa using hd), List.all_eq_true.1 ha⟩
    · exact .inl rfl
theorem mov_ok {r : Rn} {d : Pt} (h : r.Ok) (hm : okM d r = true) : (movR d r).Ok := by
  unfold okM at hm
  rw [Bool.and_eq_true] at hm
  exact ⟨h.nm, h.ct, bd_ok (inB_bd.1 hm.2) (by decide), h.st, h.tx, h.ty⟩
theorem lgs_len {l : List Bar} {rs : List Rn} (hv : validR l rs = true) {k : Nat} {x : ByteArray × List Pt} (hx : (lay l rs)[k]? = some x) : (lgsP x.2).length ≤ 6 ∧ ∀ b ∈ lgsP x.2, b.bd 1048576 := by
  obtain ⟨h1, h2, h7⟩ := lay_near hv (List.mem_of_getElem? hx)
  exact ⟨by rw [lgsP_len]; omega, fun b hb => lgsP_bd h1 hb⟩
/-- A box that lies in a row of cells. -/
def Cx6 (w : World) (g k : Nat) (b : Bx) : Prop := w.cell? ⟨g, k * 6, none⟩ = some (.int .i64 b.a) ∧ w.cell? ⟨g, k * 6 + 1, none⟩ = some (.int .i64 b.b) ∧ w.cell? ⟨g, k * 6 + 2, none⟩ = some (.int .i64 b.c) ∧ w.cell? ⟨g, k * 6 + 3, none⟩ = some (.int .i64 b.d) ∧ w.cell? ⟨g, k * 6 + 4, none⟩ = some (.int .i64 b.e) ∧ w.cell? ⟨g, k * 6 + 5, none⟩ = some (.int .i64 b.f)
theorem Cx6.on {w w1 : World} {g k : Nat} {b : Bx} (h : Cx6 w g k b) (hb : Below w.heap.size w w1) : Cx6 w1 g k b :=
  ⟨cell_later' hb h.1, cell_later' hb h.2.1, cell_later' hb h.2.2.1, cell_later' hb h.2.2.2.1, cell_later' hb h.2.2.2.2.1, cell_later' hb h.2.2.2.2.2⟩
theorem Cx6.of {w : World} {g k : Nat} {b : Bx} (h : ∀ j, j < 6 → w.cell? ⟨g, k * 6 + j, none⟩ = (cb b)[j]?) : Cx6 w g k b :=
  ⟨h 0 (by decide), h 1 (by decide), h 2 (by decide), h 3 (by decide), h 4 (by decide), h 5 (by decide)⟩
theorem pair_rd {w : World} {q1 q2 : Option Addr} {n c1 c2 : Nat} {L : List Bx} {d : Pt} (h1 : Rd cb 6 w (.slice q1 n c1) L) (h2 : Rd cb 6 w (.slice q2 n c2) (L.map (shB d))) (hn : L.length = n) (hb : ∀ b ∈ L, b.bd 1048576) :
    ∀ k, k < n → ∃ g g' b, q1 = some ⟨g, 0, none⟩ ∧ q2 = some ⟨g', 0, none⟩ ∧ b.bd 1048576 ∧ Cx6 w g k b ∧ Cx6 w g' k (shB d b) := by
  intro k hk
  obtain ⟨q, c, e, K⟩ := h1
  obtain ⟨q', c', e', K'⟩ := h2
  simp only [Value.slice.injEq] at e e'
  obtain ⟨rfl, -, rfl⟩ := e
  obtain ⟨rfl, -, rfl⟩ := e'
  obtain ⟨g, hg, k1⟩ := K k (by omega)
  obtain ⟨g', hg', k2⟩ := K' k (by simp; omega)
  refine ⟨g, g', L[k], hg, hg', hb _ (List.getElem_mem _), Cx6.of k1, Cx6.of fun j hj => ?_⟩
  have := k2 j hj
  rw [List.getElem_map] at this
  exact this
end Go.Proofs.Ytfkcogocaecodaa
