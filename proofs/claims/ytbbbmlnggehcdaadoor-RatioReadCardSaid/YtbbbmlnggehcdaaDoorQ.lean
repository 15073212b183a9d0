/- Fractions as pairs of integers: the fraction of a value, when it fits, and the laws of rational numbers by cross products. -/
namespace Go.Proofs.YtbbbmlnggehcdaaDoor
set_option linter.unusedVariables false

def V (n d : Int) : Prop := 1 ≤ d ∧ d ≤ 1152921504606846976 ∧ -1152921504606846976 ≤ n ∧ n ≤ 1152921504606846976 ∧ Int.gcd n d = 1
instance (n d : Int) : Decidable (V n d) := by unfold V; infer_instance
def vB (n d : Int) : Bool := decide (V n d)
theorem vB_t {n d : Int} : vB n d = true ↔ V n d := by simp [vB]
theorem vB_f {n d : Int} : vB n d = false ↔ ¬ V n d := by simp [vB]

/-- The fraction with the value x / q, and an error number. -/
def mk (x q : Int) : Int × Int × Int :=
  if -1152921504606846976 ≤ x / (Int.gcd x q : Int) ∧ x / (Int.gcd x q : Int) ≤ 1152921504606846976 ∧ q / (Int.gcd x q : Int) ≤ 1152921504606846976 then (x / (Int.gcd x q : Int), q / (Int.gcd x q : Int), 0) else (0, 0, 5)

theorem red (x q : Int) (hq : 0 < q) : 0 < (Int.gcd x q : Int) ∧ (Int.gcd x q : Int) * (x / (Int.gcd x q : Int)) = x ∧ (Int.gcd x q : Int) * (q / (Int.gcd x q : Int)) = q ∧ 0 < q / (Int.gcd x q : Int) ∧ Int.gcd (x / (Int.gcd x q : Int)) (q / (Int.gcd x q : Int)) = 1 := by
  have g0 : 0 < Int.gcd x q := Int.gcd_pos_of_ne_zero_right _ (by omega)
  have e1 := Int.mul_ediv_cancel' (Int.gcd_dvd_left x q)
  have e2 := Int.mul_ediv_cancel' (Int.gcd_dvd_right x q)
  have e3 := Int.gcd_ediv_gcd_ediv_gcd g0
  refine ⟨by omega, e1, e2, ?_, e3⟩
  rcases Int.lt_or_le 0 (q / (Int.gcd x q : Int)) with h | h
  · exact h
  · have := Int.mul_nonpos_of_nonneg_of_nonpos (show (0:Int) ≤ (Int.gcd x q : Int) by omega) h
    omega

theorem gdvd {a b c : Int} (h : a ∣ b * c) (g : Int.gcd a b = 1) : a ∣ c := by
  have h' := Int.natAbs_dvd_natAbs.2 h
  rw [Int.natAbs_mul] at h'
  exact Int.natAbs_dvd_natAbs.1 (Nat.Coprime.dvd_of_dvd_mul_left (by rw [Int.gcd_eq_natAbs_gcd_natAbs] at g; exact g) h')
theorem cross_den {n d x q : Int} (hd : 1 ≤ d) (hq : 0 < q) (g1 : Int.gcd n d = 1) (g2 : Int.gcd x q = 1) (h : x * d = n * q) : n = x ∧ d = q := by
  have a : q ∣ d := by
    refine gdvd (b := x) ?_ (by rw [Int.gcd_comm]; exact g2)
    rw [h]; exact Int.dvd_mul_left _ _
  have b : d ∣ q := by
    refine gdvd (b := n) ?_ (by rw [Int.gcd_comm]; exact g1)
    rw [← h]; exact Int.dvd_mul_left _ _
  have e : d = q := by
    have := Int.le_of_dvd (by omega) a
    have := Int.le_of_dvd (by omega) b
    omega
  subst e
  exact ⟨(Int.eq_of_mul_eq_mul_right (by omega) h).symm, rfl⟩

theorem V_eq {n d n' d' : Int} (h : V n d) (h' : V n' d') (e : n' * d = n * d') : n = n' ∧ d = d' :=
  cross_den h.1 (by have := h'.1; omega) h.2.2.2.2 h'.2.2.2.2 e

theorem mk_spec (x q : Int) (hq : 0 < q) : (∃ n d, mk x q = (n, d, 0) ∧ V n d ∧ x * d = n * q) ∨ (mk x q = (0, 0, 5) ∧ ∀ n d, V n d → x * d ≠ n * q) := by
  obtain ⟨g0, e1, e2, q0, g1⟩ := red x q hq
  unfold mk
  split
  · rename_i h
    refine .inl ⟨_, _, rfl, ⟨by omega, h.2.2, h.1, h.2.1, g1⟩, ?_⟩
    generalize x / (Int.gcd x q : Int) = a at *
    generalize q / (Int.gcd x q : Int) = b at *
    generalize (Int.gcd x q : Int) = g at *
    subst e1 e2
    grind
  · rename_i h
    refine .inr ⟨rfl, fun n d v e => h ?_⟩
    have k : (x / (Int.gcd x q : Int)) * d = n * (q / (Int.gcd x q : Int)) := by
      generalize x / (Int.gcd x q : Int) = a at *
      generalize q / (Int.gcd x q : Int) = b at *
      generalize (Int.gcd x q : Int) = g at *
      refine Int.eq_of_mul_eq_mul_left (a := g) (by omega) ?_
      rw [← Int.mul_assoc, e1, Int.mul_left_comm, e2, e]
    obtain ⟨a, b⟩ := cross_den v.1 q0 v.2.2.2.2 g1 k
    rw [← a, ← b]
    exact ⟨v.2.2.1, v.2.2.2.1, v.2.1⟩

theorem mk_of {x q n d : Int} (hq : 0 < q) (v : V n d) (e : x * d = n * q) : mk x q = (n, d, 0) := by
  rcases mk_spec x q hq with ⟨n', d', h, v', e'⟩ | ⟨h, k⟩
  · rw [h]
    have c : n' * d = n * d' := by
      refine Int.eq_of_mul_eq_mul_left (a := q) (by omega) ?_
      grind
    obtain ⟨rfl, rfl⟩ := V_eq v v' c
    rfl
  · exact absurd e (k n d v)

theorem mk_cross {x q x' q' : Int} (hq : 0 < q) (hq' : 0 < q') (e : x * q' = x' * q) : mk x q = mk x' q' := by
  rcases mk_spec x q hq with ⟨n, d, h, v, k⟩ | ⟨h, k⟩
  · rw [h]
    refine (mk_of hq' v ?_).symm
    refine Int.eq_of_mul_eq_mul_left (a := q) (by omega) ?_
    grind
  · rcases mk_spec x' q' hq' with ⟨n, d, h', v, k'⟩ | ⟨h', k'⟩
    · refine absurd ?_ (k n d v)
      refine Int.eq_of_mul_eq_mul_left (a := q') (by omega) ?_
      grind
    · rw [h, h']

theorem mk_self {n d : Int} (v : V n d) : mk n d = (n, d, 0) := mk_of (by have := v.1; omega) v rfl

theorem mk_ok {x q : Int} (hq : 0 < q) (h : (mk x q).2.2 = 0) : V (mk x q).1 (mk x q).2.1 ∧ x * (mk x q).2.1 = (mk x q).1 * q := by
  rcases mk_spec x q hq with ⟨n, d, e, v, k⟩ | ⟨e, k⟩
  · rw [e]; exact ⟨v, k⟩
  · rw [e] at h; simp at h
theorem mk_err {x q : Int} (hq : 0 < q) (h : (mk x q).2.2 ≠ 0) : mk x q = (0, 0, 5) := by
  rcases mk_spec x q hq with ⟨n, d, e, v, k⟩ | ⟨e, k⟩
  · rw [e] at h; simp at h
  · exact e

def addQ (an ad bn bd : Int) : Int × Int × Int := mk (an * bd + bn * ad) (ad * bd)
def mulQ (an ad bn bd : Int) : Int × Int × Int := mk (an * bn) (ad * bd)
def divQ (an ad bn bd : Int) : Int × Int × Int := if bn < 0 then mk (an * -bd) (ad * -bn) else mk (an * bd) (ad * bn)
def cmpQ (an ad bn bd : Int) : Int := if an * bd < bn * ad then -1 else if bn * ad < an * bd then 1 else 0

theorem V0 {n d : Int} (v : V n d) : 0 < d := by have := v.1; omega
theorem VV {n d n' d' : Int} (v : V n d) (v' : V n' d') : 0 < d * d' := Int.mul_pos (V0 v) (V0 v')
theorem V_neg {n d : Int} (v : V n d) : V (-n) d := by obtain ⟨a, b, c, e, f⟩ := v; exact ⟨a, b, by omega, by omega, by rw [Int.neg_gcd]; exact f⟩

theorem add_comm' (an ad bn bd : Int) : addQ an ad bn bd = addQ bn bd an ad := by unfold addQ; congr 1 <;> grind
theorem mul_comm' (an ad bn bd : Int) : mulQ an ad bn bd = mulQ bn bd an ad := by unfold mulQ; congr 1 <;> grind
theorem add_sub {an ad bn bd : Int} (va : V an ad) (vb : V bn bd) {sn sd : Int} (h : addQ an ad bn bd = (sn, sd, 0)) : V sn sd ∧ addQ sn sd (-bn) bd = (an, ad, 0) := by
  have k := mk_ok (VV va vb) (by unfold addQ at h; rw [h])
  unfold addQ at h; rw [h] at k
  refine ⟨k.1, mk_of (VV k.1 vb) va ?_⟩
  have := k.2
  simp only at this
  grind
theorem mul_div {an ad bn bd : Int} (va : V an ad) (vb : V bn bd) {sn sd : Int} (h : mulQ an ad bn bd = (sn, sd, 0)) (hb : bn ≠ 0) : V sn sd ∧ divQ sn sd bn bd = (an, ad, 0) := by
  have k := mk_ok (VV va vb) (by unfold mulQ at h; rw [h])
  unfold mulQ at h; rw [h] at k
  refine ⟨k.1, ?_⟩
  have e := k.2
  simp only at e
  unfold divQ
  split
  · exact mk_of (Int.mul_pos (V0 k.1) (by omega)) va (by grind)
  · exact mk_of (Int.mul_pos (V0 k.1) (by omega)) va (by grind)
theorem mul_zero' {an ad bd : Int} (va : V an ad) (vb : V 0 bd) : mulQ an ad 0 bd = (0, 1, 0) := by
  unfold mulQ
  exact mk_of (VV va vb) ⟨by omega, by omega, by omega, by omega, rfl⟩ (by grind)

theorem add_assoc' {an ad bn bd cn cd : Int} (va : V an ad) (vb : V bn bd) (vc : V cn cd) {sn sd tn td : Int} (h : addQ an ad bn bd = (sn, sd, 0)) (h' : addQ bn bd cn cd = (tn, td, 0)) :
    V sn sd ∧ V tn td ∧ addQ sn sd cn cd = addQ an ad tn td := by
  have k := mk_ok (VV va vb) (by unfold addQ at h; rw [h])
  unfold addQ at h; rw [h] at k
  have k' := mk_ok (VV vb vc) (by unfold addQ at h'; rw [h'])
  unfold addQ at h'; rw [h'] at k'
  obtain ⟨v, e⟩ := k
  obtain ⟨v', e'⟩ := k'
  refine ⟨v, v', mk_cross (VV v vc) (VV va v') ?_⟩
  simp only at e e'
  refine Int.eq_of_mul_eq_mul_left (a := bd) (by have := V0 vb; omega) ?_
  grind
theorem mul_assoc' {an ad bn bd cn cd : Int} (va : V an ad) (vb : V bn bd) (vc : V cn cd) {sn sd tn td : Int} (h : mulQ an ad bn bd = (sn, sd, 0)) (h' : mulQ bn bd cn cd = (tn, td, 0)) :
    V sn sd ∧ V tn td ∧ mulQ sn sd cn cd = mulQ an ad tn td := by
  have k := mk_ok (VV va vb) (by unfold mulQ at h; rw [h])
  unfold mulQ at h; rw [h] at k
  have k' := mk_ok (VV vb vc) (by unfold mulQ at h'; rw [h'])
  unfold mulQ at h'; rw [h'] at k'
  obtain ⟨v, e⟩ := k
  obtain ⟨v', e'⟩ := k'
  refine ⟨v, v', mk_cross (VV v vc) (VV va v') ?_⟩
  simp only at e e'
  refine Int.eq_of_mul_eq_mul_left (a := bd) (by have := V0 vb; omega) ?_
  grind
/-- a (b + c) = a b + a c. -/
theorem distr {an ad bn bd cn cd : Int} (va : V an ad) (vb : V bn bd) (vc : V cn cd) {pn pd rn rd dn dd : Int} (h : mulQ an ad bn bd = (pn, pd, 0)) (h' : mulQ an ad cn cd = (rn, rd, 0)) (h'' : addQ bn bd cn cd = (dn, dd, 0)) :
    V pn pd ∧ V rn rd ∧ V dn dd ∧ mulQ an ad dn dd = addQ pn pd rn rd := by
  have k := mk_ok (VV va vb) (by unfold mulQ at h; rw [h])
  unfold mulQ at h; rw [h] at k
  have k' := mk_ok (VV va vc) (by unfold mulQ at h'; rw [h'])
  unfold mulQ at h'; rw [h'] at k'
  have k'' := mk_ok (VV vb vc) (by unfold addQ at h''; rw [h''])
  unfold addQ at h''; rw [h''] at k''
  obtain ⟨v, e⟩ := k
  obtain ⟨v', e'⟩ := k'
  obtain ⟨v'', e''⟩ := k''
  refine ⟨v, v', v'', mk_cross (VV va v'') (VV v v') ?_⟩
  simp only at e e' e''
  refine Int.eq_of_mul_eq_mul_left (a := ad * bd * cd) (by have := VV va vb; have := Int.mul_pos this (V0 vc); omega) ?_
  have z := V0 va
  grind
end Go.Proofs.YtbbbmlnggehcdaaDoor
