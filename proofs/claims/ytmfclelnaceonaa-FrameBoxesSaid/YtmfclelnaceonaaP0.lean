/- Turns and points: images, turns one after another, turns back (pure). -/
namespace Go.Proofs.Ytmfclelnaceonaa

structure Pt where
  x : Int
  y : Int
  z : Int
deriving DecidableEq
structure Tn where
  x : Int
  y : Int
deriving DecidableEq
def Pt.bd (p : Pt) (L : Int) : Prop := (-L ≤ p.x ∧ p.x ≤ L) ∧ (-L ≤ p.y ∧ p.y ≤ L) ∧ (-L ≤ p.z ∧ p.z ≤ L)
def ad (p q : Pt) : Pt := ⟨p.x + q.x, p.y + q.y, p.z + q.z⟩
def sc (p : Pt) (n : Int) : Pt := ⟨p.x * n, p.y * n, p.z * n⟩
def cr (p q : Pt) : Pt := ⟨p.y * q.z - p.z * q.y, p.z * q.x - p.x * q.z, p.x * q.y - p.y * q.x⟩
def lo (p q : Pt) : Pt := ⟨min p.x q.x, min p.y q.y, min p.z q.z⟩
def hi (p q : Pt) : Pt := ⟨max p.x q.x, max p.y q.y, max p.z q.z⟩
def axB (n : Int) : Bool := decide (-3 ≤ n) && decide (n ≤ 3) && !decide (n = 0)
def vT (t : Tn) : Bool := axB t.x && axB t.y && !decide (t.x = t.y) && !decide (t.x = -t.y)
def U (n : Int) : Pt := if n = 1 ∨ n = -1 then ⟨n, 0, 0⟩ else if n = 2 ∨ n = -2 then ⟨0, n.tdiv 2, 0⟩ else ⟨0, 0, n.tdiv 3⟩
def axn (p : Pt) : Int := p.x + 2 * p.y + 3 * p.z
def img (t : Tn) (p : Pt) : Pt := ad (ad (sc (U t.x) p.x) (sc (U t.y) p.y)) (sc (cr (U t.x) (U t.y)) p.z)
def aft (a b : Tn) : Tn := ⟨axn (img b (U a.x)), axn (img b (U a.y))⟩
def rng : List Int := [-3, -2, -1, 0, 1, 2, 3]
def allQ : List Tn := rng.flatMap fun x => rng.map fun y => ⟨x, y⟩
def allT : List Tn := allQ.filter vT
def bk (t : Tn) : Tn := (allT.find? fun b => aft t b = ⟨1, 2⟩).getD ⟨0, 0⟩
theorem allT_len : allT.length = 24 := by decide +kernel
theorem ax_rng {n : Int} (h : axB n = true) : n ∈ rng := by
  simp only [axB, Bool.and_eq_true, decide_eq_true_eq] at h
  have : n = -3 ∨ n = -2 ∨ n = -1 ∨ n = 0 ∨ n = 1 ∨ n = 2 ∨ n = 3 := by omega
  simpa [rng] using this
theorem mem_allT {t : Tn} (h : vT t = true) : t ∈ allT := by
  refine List.mem_filter.2 ⟨?_, h⟩
  have h0 := h
  simp only [vT, Bool.and_eq_true] at h0
  obtain ⟨⟨⟨h1, h2⟩, -⟩, -⟩ := h0
  exact List.mem_flatMap.2 ⟨t.x, ax_rng h1, List.mem_map.2 ⟨t.y, ax_rng h2, rfl⟩⟩
theorem vT_mem {t : Tn} (h : t ∈ allT) : vT t = true := (List.mem_filter.1 h).2
theorem aft_facts : ∀ a ∈ allT, ∀ b ∈ allT, vT (aft a b) = true ∧ U (aft a b).x = img b (U a.x) ∧ U (aft a b).y = img b (U a.y) ∧ cr (U (aft a b).x) (U (aft a b).y) = img b (cr (U a.x) (U a.y)) := by decide +kernel
theorem bk_facts : ∀ t ∈ allT, vT (bk t) = true ∧ bk (bk t) = t ∧ aft t (bk t) = ⟨1, 2⟩ ∧ (allT.findIdx fun b => aft t b = ⟨1, 2⟩) < 24 := by decide +kernel
theorem vT_aft {a b : Tn} (ha : vT a = true) (hb : vT b = true) : vT (aft a b) = true := (aft_facts a (mem_allT ha) b (mem_allT hb)).1
theorem img_lin (b : Tn) (p q r : Pt) (i j k : Int) : img b (ad (ad (sc p i) (sc q j)) (sc r k)) = ad (ad (sc (img b p) i) (sc (img b q) j)) (sc (img b r) k) := by
  simp only [img, ad, sc, Pt.mk.injEq]
  refine ⟨?_, ?_, ?_⟩ <;> grind
theorem act {a b : Tn} (ha : vT a = true) (hb : vT b = true) (p : Pt) : img (aft a b) p = img b (img a p) := by
  obtain ⟨-, h1, h2, h3⟩ := aft_facts a (mem_allT ha) b (mem_allT hb)
  have e : img a p = ad (ad (sc (U a.x) p.x) (sc (U a.y) p.y)) (sc (cr (U a.x) (U a.y)) p.z) := rfl
  rw [e, img_lin, ← h1, ← h2, ← h3]
  rfl
theorem grp {a b c : Tn} (ha : vT a = true) (hb : vT b = true) (hc : vT c = true) : aft (aft a b) c = aft a (aft b c) := by
  obtain ⟨-, h1, h2, -⟩ := aft_facts a (mem_allT ha) b (mem_allT hb)
  have e : aft (aft a b) c = ⟨axn (img c (U (aft a b).x)), axn (img c (U (aft a b).y))⟩ := rfl
  rw [e, h1, h2, ← act hb hc, ← act hb hc]
  rfl
theorem img_one (p : Pt) : img ⟨1, 2⟩ p = p := by
  obtain ⟨x, y, z⟩ := p
  simp [img, ad, sc, cr, U]
theorem bk_img {t : Tn} (h : vT t = true) (p : Pt) : img (bk t) (img t p) = p := by
  obtain ⟨h1, -, h2, -⟩ := bk_facts t (mem_allT h)
  rw [← act h h1, h2, img_one]
theorem vT_or {t : Tn} (h : vT t = true) : (t = ⟨-3, -2⟩ ∨ t = ⟨-3, -1⟩ ∨ t = ⟨-3, 1⟩ ∨ t = ⟨-3, 2⟩ ∨ t = ⟨-2, -3⟩ ∨ t = ⟨-2, -1⟩ ∨ t = ⟨-2, 1⟩ ∨ t = ⟨-2, 3⟩) ∨ (t = ⟨-1, -3⟩ ∨ t = ⟨-1, -2⟩ ∨ t = ⟨-1, 2⟩ ∨ t = ⟨-1, 3⟩ ∨ t = ⟨1, -3⟩ ∨ t = ⟨1, -2⟩ ∨ t = ⟨1, 2⟩ ∨ t = ⟨1, 3⟩) ∨ t = ⟨2, -3⟩ ∨ t = ⟨2, -1⟩ ∨ t = ⟨2, 1⟩ ∨ t = ⟨2, 3⟩ ∨ t = ⟨3, -2⟩ ∨ t = ⟨3, -1⟩ ∨ t = ⟨3, 1⟩ ∨ t = ⟨3, 2⟩ := by
  have := mem_allT h
  have e : allT = [⟨-3, -2⟩, ⟨-3, -1⟩, ⟨-3, 1⟩, ⟨-3, 2⟩, ⟨-2, -3⟩, ⟨-2, -1⟩, ⟨-2, 1⟩, ⟨-2, 3⟩, ⟨-1, -3⟩, ⟨-1, -2⟩, ⟨-1, 2⟩, ⟨-1, 3⟩, ⟨1, -3⟩, ⟨1, -2⟩, ⟨1, 2⟩, ⟨1, 3⟩, ⟨2, -3⟩, ⟨2, -1⟩, ⟨2, 1⟩, ⟨2, 3⟩, ⟨3, -2⟩, ⟨3, -1⟩, ⟨3, 1⟩, ⟨3, 2⟩] := by decide +kernel
  rw [e] at this
  simpa only [List.mem_cons, List.not_mem_nil, or_false, or_assoc] using this
theorem img_bd {t : Tn} (h : vT t = true) {p : Pt} {L : Int} (hp : p.bd L) : (img t p).bd L := by
  unfold Pt.bd at *
  rcases vT_or h with (rfl|rfl|rfl|rfl|rfl|rfl|rfl|rfl)|(rfl|rfl|rfl|rfl|rfl|rfl|rfl|rfl)|rfl|rfl|rfl|rfl|rfl|rfl|rfl|rfl <;>
    (simp [img, ad, sc, cr, U]; omega)
def dt (a b : Pt) : Int := a.x * b.x + a.y * b.y + a.z * b.z
def mi (a b : Pt) : Pt := ⟨a.x - b.x, a.y - b.y, a.z - b.z⟩
theorem img_dt {t : Tn} (h : vT t = true) (p q : Pt) : dt (img t p) (img t q) = dt p q := by
  unfold dt
  rcases vT_or h with (rfl|rfl|rfl|rfl|rfl|rfl|rfl|rfl)|(rfl|rfl|rfl|rfl|rfl|rfl|rfl|rfl)|rfl|rfl|rfl|rfl|rfl|rfl|rfl|rfl <;>
    (simp [img, ad, sc, cr, U]; try grind)
theorem img_mi (t : Tn) (p q : Pt) : mi (img t p) (img t q) = img t (mi p q) := by
  simp only [img, ad, sc, mi, Pt.mk.injEq]
  refine ⟨?_, ?_, ?_⟩ <;> grind
def vol (p q s : Pt) : Int := p.x * (q.y * s.z - q.z * s.y) + p.y * (q.z * s.x - q.x * s.z) + p.z * (q.x * s.y - q.y * s.x)
theorem img_vol {t : Tn} (h : vT t = true) (p q s : Pt) : vol (img t p) (img t q) (img t s) = vol p q s := by
  unfold vol
  rcases vT_or h with (rfl|rfl|rfl|rfl|rfl|rfl|rfl|rfl)|(rfl|rfl|rfl|rfl|rfl|rfl|rfl|rfl)|rfl|rfl|rfl|rfl|rfl|rfl|rfl|rfl <;>
    (simp [img, ad, sc, cr, U]; try grind)
/-- The image of a box. -/
def bxp (t : Tn) (p q : Pt) : Pt × Pt := (lo (img t p) (img t q), hi (img t p) (img t q))
set_option maxHeartbeats 4000000 in
theorem img_between {t : Tn} (h : vT t = true) {p q r : Pt} (h1 : (p.x ≤ r.x ∧ r.x ≤ q.x) ∧ (p.y ≤ r.y ∧ r.y ≤ q.y) ∧ (p.z ≤ r.z ∧ r.z ≤ q.z)) :
    ((lo (img t p) (img t q)).x ≤ (img t r).x ∧ (img t r).x ≤ (hi (img t p) (img t q)).x) ∧ ((lo (img t p) (img t q)).y ≤ (img t r).y ∧ (img t r).y ≤ (hi (img t p) (img t q)).y) ∧ ((lo (img t p) (img t q)).z ≤ (img t r).z ∧ (img t r).z ≤ (hi (img t p) (img t q)).z) := by
  rcases vT_or h with (rfl|rfl|rfl|rfl|rfl|rfl|rfl|rfl)|(rfl|rfl|rfl|rfl|rfl|rfl|rfl|rfl)|rfl|rfl|rfl|rfl|rfl|rfl|rfl|rfl <;>
    (simp [img, ad, sc, cr, U, lo, hi]; omega)
set_option maxHeartbeats 4000000 in
theorem img_perm {t : Tn} (h : vT t = true) {p q : Pt} (h1 : p.x ≤ q.x ∧ p.y ≤ q.y ∧ p.z ≤ q.z) :
    [(hi (img t p) (img t q)).x - (lo (img t p) (img t q)).x, (hi (img t p) (img t q)).y - (lo (img t p) (img t q)).y, (hi (img t p) (img t q)).z - (lo (img t p) (img t q)).z].Perm [q.x - p.x, q.y - p.y, q.z - p.z] := by
  have pm : ∀ {a b c x y z : Int}, (a = x ∧ b = y ∧ c = z) ∨ (a = x ∧ b = z ∧ c = y) ∨ (a = y ∧ b = x ∧ c = z) ∨ (a = y ∧ b = z ∧ c = x) ∨ (a = z ∧ b = x ∧ c = y) ∨ (a = z ∧ b = y ∧ c = x) → [a, b, c].Perm [x, y, z] := by
    intro a b c x y z k
    rcases k with ⟨rfl, rfl, rfl⟩ | ⟨rfl, rfl, rfl⟩ | ⟨rfl, rfl, rfl⟩ | ⟨rfl, rfl, rfl⟩ | ⟨rfl, rfl, rfl⟩ | ⟨rfl, rfl, rfl⟩
    · exact List.Perm.refl _
    · exact (List.Perm.swap _ _ _).cons _
    · exact List.Perm.swap _ _ _
    · exact ((List.Perm.swap _ _ _).trans ((List.Perm.swap _ _ _).cons _)).symm
    · exact ((List.Perm.swap _ _ _).cons _).trans (List.Perm.swap _ _ _)|>.symm
    · exact ((List.Perm.swap _ _ _).trans ((List.Perm.swap _ _ _).cons _)).trans (List.Perm.swap _ _ _)
  apply pm
  rcases vT_or h with (rfl|rfl|rfl|rfl|rfl|rfl|rfl|rfl)|(rfl|rfl|rfl|rfl|rfl|rfl|rfl|rfl)|rfl|rfl|rfl|rfl|rfl|rfl|rfl|rfl <;>
    (simp [img, ad, sc, cr, U, lo, hi]; omega)
end Go.Proofs.Ytmfclelnaceonaa
