/- The contract of the library's Div64 and Rem64. -/
import Derived.Test.YtbbbmlnggehcdaaDoorBas
import Derived.Test.YtbbbmlnggehcdaaDoorKn
import Derived.Test.YtbbbmlnggehcdaaDoorShf
import Derived.Laws.BitsAllLaws
namespace Go.Proofs.YtbbbmlnggehcdaaDoor
open Go.ChangeShapes Go.WideShapes Go.ChangeAt Go.RowKit
set_option linter.unusedVariables false
set_option maxRecDepth 100000

theorem ret_two {k : IntKind} {a b c d : Int} (h : a = b) (h' : c = d) : Ending.returned (.tuple #[.int k a, .int k c]) = .returned (.tuple #[.int k b, .int k d]) := by rw [h, h']
theorem u64_nat (n : Nat) (h : n < 18446744073709551616) : IntKind.u64.wrap (n : Int) = (n : Int) := by rw [IntKind.wrap_u64]; omega
theorem u64_mul (a b c : Nat) (h : a * b = c) (h' : c < 18446744073709551616) : IntKind.u64.wrap ((a : Int) * (b : Int)) = (c : Int) := by
  subst h; exact u64_nat _ h'
theorem u64_tdiv (a b : Nat) (h : a < 18446744073709551616) : IntKind.u64.wrap ((a : Int).tdiv (b : Int)) = ((a / b : Nat) : Int) := by
  rw [Int.tdiv_eq_ediv_of_nonneg (by omega)]
  exact u64_nat _ (Nat.lt_of_le_of_lt (Nat.div_le_self _ _) h)
theorem u64_mulrest (u a : Nat) (h : u < 18446744073709551616) : IntKind.u64.wrap ((u : Int) - IntKind.u64.wrap (((u / a : Nat) : Int) * (a : Int))) = ((u % a : Nat) : Int) := by
  have e := Nat.div_add_mod u a
  rw [Nat.mul_comm] at e
  rw [u64_mul (u / a) a _ rfl (by omega)]
  have : (u : Int) - ((u / a * a : Nat) : Int) = ((u % a : Nat) : Int) := by omega
  rw [this]; exact u64_nat _ (by omega)
theorem u64_three (u z q Y r : Nat) (h : q * Y + r = u * 4294967296 + z) (hr : r < 18446744073709551616) (hz : z < 4294967296) :
    IntKind.u64.wrap (IntKind.u64.wrap (IntKind.u64.wrap ((u : Int) * 4294967296) + (z : Int)) - IntKind.u64.wrap ((q : Int) * (Y : Int))) = (r : Int) := by
  have e : ((q : Int) * (Y : Int)) = ((q * Y : Nat) : Int) := rfl
  rw [e]
  generalize q * Y = P at *
  simp only [IntKind.wrap_u64]
  omega

theorem bl_spec (y : Nat) (hy : 0 < y) (hy2 : y < 18446744073709551616) : ∃ s, Lib.bitLen y = 64 - s ∧ s < 64 ∧ 9223372036854775808 ≤ y * 2 ^ s ∧ y * 2 ^ s < 18446744073709551616 := by
  have h3 : 2 ^ y.log2 ≤ y := Nat.log2_self_le (by omega)
  have h4 : y < 2 ^ (y.log2 + 1) := Nat.lt_log2_self
  have e1 : y / 2 ^ y.log2 = 1 := by
    refine Nat.div_eq_of_lt_le (by omega) ?_
    rw [Nat.pow_succ] at h4; omega
  have e : Lib.bitLen y = y.log2 + 1 := by rw [Lib.bitLen_shift y.log2 y h3 hy2, e1]; rfl
  have l1 : y.log2 < 64 := by
    refine Nat.lt_of_not_le fun h => ?_
    have : 2 ^ 64 ≤ 2 ^ y.log2 := Nat.pow_le_pow_right (by omega) h
    have e : (2 : Nat) ^ 64 = 18446744073709551616 := by decide
    omega
  generalize y.log2 = k at *
  refine ⟨63 - k, by omega, by omega, ?_, ?_⟩
  · have : 2 ^ k * 2 ^ (63 - k) ≤ y * 2 ^ (63 - k) := Nat.mul_le_mul_right _ h3
    rw [← Nat.pow_add, show k + (63 - k) = 63 by omega] at this
    exact this
  · have : y * 2 ^ (63 - k) < 2 ^ (k + 1) * 2 ^ (63 - k) := Nat.mul_lt_mul_of_pos_right h4 (Nat.two_pow_pos _)
    rw [← Nat.pow_add, show k + 1 + (63 - k) = 64 by omega] at this
    exact this

theorem or_words (h l s : Nat) (hl : l < 2 ^ s) (hb : h * 2 ^ s + l < 18446744073709551616) : bits .or .u64 ((h * 2 ^ s : Nat) : Int) (l : Int) = ((h * 2 ^ s + l : Nat) : Int) := by
  rw [u64_or_nat _ _ (by omega) (by omega)]
  have := Nat.shiftLeft_add_eq_or_of_lt hl h
  rw [Nat.shiftLeft_eq] at this
  rw [this]

theorem div64_zero (hi lo y : Nat) (w : World) (h0 : hi = 0) (hlo : lo < 18446744073709551616) (hy : y < 18446744073709551616) (hy0 : 0 < y) :
    Calls Tryd.prog 70 #[.int .u64 (hi : Int), .int .u64 (lo : Int), .int .u64 (y : Int)] w fun e w' => e = .returned (.tuple #[.int .u64 (((hi * 18446744073709551616 + lo) / y : Nat) : Int), .int .u64 (((hi * 18446744073709551616 + lo) % y : Nat) : Int)]) ∧ Dr w w' := by
  subst h0
  simp only [Nat.zero_mul, Nat.zero_add, Int.natCast_zero]
  have h1 : ((y : Int) == 0) = false := by simp; omega
  have h2 : ¬ (y : Int) ≤ 0 := by omega
  go_enter Tryd.func70, Tryd.ntmps70
  go_wp2
  go_quiet (fail)
  go_wp2
  go_ret2
  exact ⟨ret_two (by rw [show (lo : Int) / (y : Int) = ((lo / y : Nat) : Int) from rfl]; exact u64_nat _ (Nat.lt_of_le_of_lt (Nat.div_le_self _ _) hlo)) rfl, _, rfl⟩

set_option maxHeartbeats 4000000 in
theorem div64_any (hi lo y : Nat) (w : World) (hhi : 0 < hi) (hlo : lo < 18446744073709551616) (hy : y < 18446744073709551616) (hlt : hi < y) :
    Calls Tryd.prog 70 #[.int .u64 (hi : Int), .int .u64 (lo : Int), .int .u64 (y : Int)] w fun e w' => e = .returned (.tuple #[.int .u64 (((hi * 18446744073709551616 + lo) / y : Nat) : Int), .int .u64 (((hi * 18446744073709551616 + lo) % y : Nat) : Int)]) ∧ Dr w w' := by
  have h1 : ((y : Int) == 0) = false := by simp; omega
  have h2 : ¬ (y : Int) ≤ (hi : Int) := by omega
  have h3 : ((hi : Int) == 0) = false := by simp; omega
  obtain ⟨s, hs, hs64, hY1, hY2⟩ := bl_spec y (by omega) hy
  obtain ⟨k1, k2, k3, k4⟩ := kn_shift hs64 hlo hY2 hlt
  obtain ⟨Y, hY⟩ : ∃ Y, Y = y * 2 ^ s := ⟨_, rfl⟩
  rw [← hY] at hY1 hY2 k3
  obtain ⟨L, hL⟩ : ∃ L, L = lo / 2 ^ (64 - s) := ⟨_, rfl⟩
  rw [← hL] at k2 k3 k4
  obtain ⟨u, hu⟩ : ∃ u, u = hi * 2 ^ s + L := ⟨_, rfl⟩
  obtain ⟨H, hH⟩ : ∃ H, H = hi * 2 ^ s := ⟨_, rfl⟩
  rw [← hu] at k3 k4
  obtain ⟨v, hv⟩ : ∃ v, v = lo * 2 ^ s % 18446744073709551616 := ⟨_, rfl⟩
  rw [← hv] at k4
  have F1 : IntKind.u64.wrap (64 - (Lib.bitLen y : Int)) = (s : Int) := by rw [hs, IntKind.wrap_u64]; omega
  have F2 : min ((s : Int)).toNat 64 = s := by omega
  have F3 : IntKind.u64.wrap ((y : Int) * 2 ^ s) = (Y : Int) := by
    have := u64_mul y (2 ^ s) Y hY.symm hY2
    rwa [Int.natCast_pow] at this
  have F5 : bits .and .u64 (Y : Int) 4294967295 = ((Y % 4294967296 : Nat) : Int) := Mul64.maskN Y hY2
  have F6 : IntKind.u64.wrap ((hi : Int) * 2 ^ s) = (H : Int) := by
    rw [hH]
    have := u64_mul hi (2 ^ s) _ rfl k1
    rwa [Int.natCast_pow] at this
  have F7 : IntKind.u64.wrap (64 - (s : Int)) = ((64 - s : Nat) : Int) := by rw [IntKind.wrap_u64]; omega
  have F7b : min ((64 - s : Nat) : Int).toNat 64 = 64 - s := by omega
  have F8 : (lo : Int) / 2 ^ (64 - s) = (L : Int) := by rw [hL]; simp
  have F9 : bits .or .u64 (H : Int) (L : Int) = (u : Int) := by rw [hu, hH]; exact or_words hi L s k2 (by omega)
  have F10 : IntKind.u64.wrap ((lo : Int) * 2 ^ s) = (v : Int) := by
    have e : (lo : Int) * 2 ^ s = ((lo * 2 ^ s : Nat) : Int) := by rw [Int.natCast_mul, Int.natCast_pow]; rfl
    rw [e, hv]; exact Mul64.wrapM _
  have hv2 : v < 18446744073709551616 := by rw [hv]; exact Nat.mod_lt _ (by omega)
  have F12 : bits .and .u64 (v : Int) 4294967295 = ((v % 4294967296 : Nat) : Int) := Mul64.maskN v hv2
  have D1 : (Y : Int) / 4294967296 = ((Y / 4294967296 : Nat) : Int) := by omega
  have D2 : (v : Int) / 4294967296 = ((v / 4294967296 : Nat) : Int) := by omega
  obtain ⟨a, ha⟩ : ∃ a, a = Y / 4294967296 := ⟨_, rfl⟩
  obtain ⟨b, hb⟩ : ∃ b, b = Y % 4294967296 := ⟨_, rfl⟩
  obtain ⟨z1, hz1⟩ : ∃ z, z = v / 4294967296 := ⟨_, rfl⟩
  obtain ⟨z0, hz0⟩ : ∃ z, z = v % 4294967296 := ⟨_, rfl⟩
  rw [← ha] at D1; rw [← hb] at F5; rw [← hz1] at D2; rw [← hz0] at F12
  have eY : Y = a * 4294967296 + b := by omega
  have ba : 2147483648 ≤ a ∧ a < 4294967296 := by omega
  have bb : b < 4294967296 := by omega
  have bz : z1 < 4294967296 ∧ z0 < 4294967296 := by omega
  have hN : (hi * 18446744073709551616 + lo) * 2 ^ s = (u * 4294967296 + z1) * 4294967296 + z0 := by rw [k4]; omega
  have F13 : IntKind.u64.wrap ((u : Int) / (a : Int)) = ((u / a : Nat) : Int) := u64_nat _ (Nat.lt_of_le_of_lt (Nat.div_le_self _ _) (by omega))
  have F14 := u64_mulrest u a (by omega)
  obtain ⟨p, hp⟩ : ∃ p, p = u / a := ⟨_, rfl⟩
  obtain ⟨r, hr⟩ : ∃ r, r = u % a := ⟨_, rfl⟩
  rw [← hp] at F13 F14; rw [← hr] at F14
  have Fin : ∀ q1 q0, q1 = (u * 4294967296 + z1) / Y → q0 = ((u * 4294967296 + z1) % Y * 4294967296 + z0) / Y →
      q1 * 4294967296 + q0 = (hi * 18446744073709551616 + lo) / y ∧ ((u * 4294967296 + z1) % Y * 4294967296 + z0) % Y / 2 ^ s = (hi * 18446744073709551616 + lo) % y := by
    intro q1 q0 e1 e0
    rw [hY] at e1 e0 ⊢
    exact kn_fin (by omega) hN e1 e0
  have FIN := Lib.hid Fin; clear Fin
  clear k1 k2 k4 hs hL hu hv ha hb hz1 hz0 hN hH
  have hu1 : u < a * 4294967296 + b := by omega
  obtain ⟨c1, c2, c3, c4⟩ := kn_start ba.1 ba.2 bb bz.1 hu1
  rw [← hp, ← hr] at c4; rw [← hp] at c1 c3; rw [← hr] at c2
  rw [← eY] at c3
  have HU1 := Lib.hid hu1; clear hu1
  have HY := Lib.hid eY; have HC3 := Lib.hid c3; have HC4 := Lib.hid c4; clear eY c3 c4 hp hr hY
  obtain ⟨A, hA⟩ : ∃ A, A = (hi * 18446744073709551616 + lo) / y := ⟨_, rfl⟩
  obtain ⟨R, hR⟩ : ∃ R, R = (hi * 18446744073709551616 + lo) % y := ⟨_, rfl⟩
  have LA : A < 18446744073709551616 := by
    rw [hA]; refine (Nat.div_lt_iff_lt_mul (by omega)).2 ?_
    omega
  rw [← hA, ← hR]
  have HA := Lib.hid (And.intro hA hR); clear hA hR
  go_enter Tryd.func70, Tryd.ntmps70
  go_wp2_with (first | (go_at_call 77; refine (Tryd.bits_LeadingZeros64 _ _ (by omega) (by omega)).mono ?_; rintro e w1 ⟨rfl, rfl⟩))
  clear F1 F2 F3 F5 F6 F7 F7b F8 F9 F10 F12 F13 F14 D1 D2
  go_loop [15, 16] (fun vq vx => ∃ (q x : Nat) (qi xi : Int), vq = .int .u64 qi ∧ vx = .int .u64 xi ∧ Hid (qi = (q : Int) ∧ xi = (x : Int)) ∧ 0 ≤ qi ∧ qi ≤ 4294967297 ∧ 0 ≤ xi ∧ xi < 4294967296 ∧ Hid (q * a + x = u ∧ (u * 4294967296 + z1) / Y ≤ q)) (fun vq _ => (intOf vq).toNat)
  case atStart => exact ⟨p, r, p, r, rfl, rfl, Lib.hid ⟨rfl, rfl⟩, by omega, by omega, by omega, by omega, Lib.hid ⟨HC4.out, HC3.out⟩⟩
  case round =>
    obtain ⟨q1, x1, qi1, xi1, rfl, rfl, hQ1, hq01, hq1, hx01, hx1, hI1⟩ := hrel
    have hPlt1 : qi1 < 4294967296 → q1 * b < 18446744073709551616 := fun h => by
      have e := hQ1.out.1
      have : q1 * b ≤ 4294967296 * b := Nat.mul_le_mul_right _ (by omega)
      omega
    obtain ⟨Pi1, hP1⟩ : ∃ P : Int, P = ((q1 * b : Nat) : Int) := ⟨_, rfl⟩
    have AW1 : qi1 < 4294967296 → IntKind.u64.wrap (qi1 * (b : Int)) = Pi1 := fun h => by rw [hP1, hQ1.out.1]; exact u64_mul _ _ _ rfl (hPlt1 h)
    have hbig : ¬ (qi1 < 4294967296 ∧ Pi1 ≤ 4294967296 * xi1 + (z1 : Int)) → 4294967296 ≤ q1 ∨ x1 * 4294967296 + z1 < q1 * b := by
      rw [hP1, hQ1.out.1, hQ1.out.2]
      generalize q1 * b = P
      intro h; omega
    have hend : qi1 < 4294967296 → Pi1 ≤ 4294967296 * xi1 + (z1 : Int) → q1 = (u * 4294967296 + z1) / Y := by
      have e := HY.out
      have i1 := hI1.out.1
      have i2 := hI1.out.2
      rw [hP1, hQ1.out.2]
      intro _ h
      rw [e] at i2 ⊢
      exact kn_end ba.1 bb i1 i2 (.inl (by omega))
    have HPT1 := Lib.hid hP1; clear hP1 hPlt1
    by_cases hc1 : qi1 < 4294967296 ∧ Pi1 ≤ 4294967296 * xi1 + (z1 : Int)
    · have A1 := AW1 hc1.1
      have HE1 := Lib.hid (hend hc1.1 hc1.2)
      obtain ⟨g1_1, g2_1⟩ := hc1
      clear hend AW1 hbig
      obtain ⟨r1, hr1⟩ : ∃ r, r = (u * 4294967296 + z1) % Y := ⟨_, rfl⟩
      have lr1 : r1 < Y := by rw [hr1]; exact Nat.mod_lt _ (by omega)
      have er1 : q1 * Y + r1 = u * 4294967296 + z1 := by rw [hr1, HE1.out, Nat.mul_comm]; exact Nat.div_add_mod _ _
      have T1 : IntKind.u64.wrap (IntKind.u64.wrap (IntKind.u64.wrap ((u : Int) * 4294967296) + (z1 : Int)) - IntKind.u64.wrap (qi1 * (Y : Int))) = (r1 : Int) := by
        rw [hQ1.out.1]; exact u64_three _ _ _ _ _ er1 (by omega) bz.1
      have T2 : IntKind.u64.wrap ((r1 : Int) / (a : Int)) = ((r1 / a : Nat) : Int) := u64_nat _ (Nat.lt_of_le_of_lt (Nat.div_le_self _ _) (by omega))
      have T3 := u64_mulrest r1 a (by omega)
      obtain ⟨p0, hp0⟩ : ∃ p, p = r1 / a := ⟨_, rfl⟩
      obtain ⟨x0, hx0⟩ : ∃ x, x = r1 % a := ⟨_, rfl⟩
      rw [← hp0] at T2 T3; rw [← hx0] at T3
      have hu2 : r1 < a * 4294967296 + b := by rw [← HY.out]; exact lr1
      obtain ⟨d1, d2, d3, d4⟩ := kn_start ba.1 ba.2 bb bz.2 hu2
      rw [← hp0, ← hx0] at d4; rw [← hp0] at d1 d3; rw [← hx0] at d2
      rw [← HY.out] at d3
      have HU2 := Lib.hid hu2; have HD3 := Lib.hid d3; have HD4 := Lib.hid d4; have HRM := Lib.hid hr1; have ER1 := Lib.hid er1
      clear hu2 d3 d4 hr1 er1 hp0 hx0
      go_wp2
      clear T2 T3
      go_loop [18, 16] (fun vq vx => ∃ (q x : Nat) (qi xi : Int), vq = .int .u64 qi ∧ vx = .int .u64 xi ∧ Hid (qi = (q : Int) ∧ xi = (x : Int)) ∧ 0 ≤ qi ∧ qi ≤ 4294967297 ∧ 0 ≤ xi ∧ xi < 4294967296 ∧ Hid (q * a + x = r1 ∧ (r1 * 4294967296 + z0) / Y ≤ q)) (fun vq _ => (intOf vq).toNat)
      case atStart => exact ⟨p0, x0, p0, x0, rfl, rfl, Lib.hid ⟨rfl, rfl⟩, by omega, by omega, by omega, by omega, Lib.hid ⟨HD4.out, HD3.out⟩⟩
      case round =>
        obtain ⟨q2, x2, qi2, xi2, rfl, rfl, hQ2, hq02, hq2, hx02, hx2, hI2⟩ := hrel
        have hPlt2 : qi2 < 4294967296 → q2 * b < 18446744073709551616 := fun h => by
          have e := hQ2.out.1
          have : q2 * b ≤ 4294967296 * b := Nat.mul_le_mul_right _ (by omega)
          omega
        obtain ⟨Pi2, hP2⟩ : ∃ P : Int, P = ((q2 * b : Nat) : Int) := ⟨_, rfl⟩
        have AW2 : qi2 < 4294967296 → IntKind.u64.wrap (qi2 * (b : Int)) = Pi2 := fun h => by rw [hP2, hQ2.out.1]; exact u64_mul _ _ _ rfl (hPlt2 h)
        have hbig : ¬ (qi2 < 4294967296 ∧ Pi2 ≤ 4294967296 * xi2 + (z0 : Int)) → 4294967296 ≤ q2 ∨ x2 * 4294967296 + z0 < q2 * b := by
          rw [hP2, hQ2.out.1, hQ2.out.2]
          generalize q2 * b = P
          intro h; omega
        have hend : qi2 < 4294967296 → Pi2 ≤ 4294967296 * xi2 + (z0 : Int) → q2 = (r1 * 4294967296 + z0) / Y := by
          have e := HY.out
          have i1 := hI2.out.1
          have i2 := hI2.out.2
          rw [hP2, hQ2.out.2]
          intro _ h
          rw [e] at i2 ⊢
          exact kn_end ba.1 bb i1 i2 (.inl (by omega))
        have HPT2 := Lib.hid hP2; clear hP2 hPlt2
        by_cases hc2 : qi2 < 4294967296 ∧ Pi2 ≤ 4294967296 * xi2 + (z0 : Int)
        · have A2 := AW2 hc2.1
          have HE2 := Lib.hid (hend hc2.1 hc2.2)
          obtain ⟨g1_2, g2_2⟩ := hc2
          clear hend AW2 hbig
          obtain ⟨f1, f2⟩ := FIN.out q1 q2 HE1.out (by rw [← HRM.out]; exact HE2.out)
          obtain ⟨r0, hr0⟩ : ∃ r, r = (r1 * 4294967296 + z0) % Y := ⟨_, rfl⟩
          rw [← HRM.out, ← hr0] at f2
          have er0 : q2 * Y + r0 = r1 * 4294967296 + z0 := by rw [hr0, HE2.out, Nat.mul_comm]; exact Nat.div_add_mod _ _
          have RR : IntKind.u64.wrap (IntKind.u64.wrap (IntKind.u64.wrap ((r1 : Int) * 4294967296) + (z0 : Int)) - IntKind.u64.wrap (qi2 * (Y : Int))) = (r0 : Int) := by
            rw [hQ2.out.1]; exact u64_three _ _ _ _ _ er0 (by have := Nat.mod_lt (r1 * 4294967296 + z0) (show 0 < Y by omega); omega) bz.2
          have GA : q1 * 4294967296 + q2 = A := by rw [f1]; exact HA.out.1.symm
          have GR : (r0 : Int) / 2 ^ s = (R : Int) := by rw [HA.out.2, ← f2]; simp
          have HGA := Lib.hid GA; have HGR := Lib.hid GR; clear GA GR f1 f2 er0 hr0
          go_wp2
          go_ret2
          exact ⟨ret_two (by
            have e0 := HGA.out
            have e1 := hQ1.out.1
            have e2 := hQ2.out.1
            have e3 := LA
            first | omega | (simp only [IntKind.wrap_u64]; omega)) (by first | exact HGR.out | (rw [RR]; exact HGR.out)), Dr.refl _⟩
        · obtain ⟨b1, b2, b3⟩ := kn_big ba.1 bz.2 HU2.out hI2.out.1 (hbig hc2)
          rw [← HY.out] at b1
          have eT : qi2 - 1 = ((q2 - 1 : Nat) : Int) := by rw [hQ2.out.1]; omega
          have eX : xi2 + (a : Int) = ((x2 + a : Nat) : Int) := by rw [hQ2.out.2]; omega
          have hend2 : ¬ (xi2 + (a : Int) < 4294967296) → q2 - 1 = (r1 * 4294967296 + z0) / Y := by
            rw [eX]
            intro h
            have e := HY.out
            have e1 := hQ2.out.1
            rw [e] at b1 ⊢
            exact kn_end ba.1 bb b2 (by omega) (.inr ⟨by omega, by omega⟩)
          have meas : (qi2 - 1).toNat < (qi2).toNat := by have := hQ2.out.1; omega
          have t0 : 0 ≤ qi2 - 1 ∧ qi2 - 1 ≤ 4294967297 ∧ 0 ≤ xi2 + (a : Int) := ⟨by rw [eT]; omega, by omega, by rw [eX]; omega⟩
          have HR2 : Hid ((qi2 - 1) = ((q2 - 1 : Nat) : Int) ∧ xi2 + (a : Int) = ((x2 + a : Nat) : Int)) := Lib.hid ⟨eT, eX⟩
          have HS2 : Hid ((q2 - 1) * a + (x2 + a) = r1 ∧ (r1 * 4294967296 + z0) / Y ≤ q2 - 1) := Lib.hid ⟨b2, by omega⟩
          clear b1 b2 b3 eT eX hend
          by_cases hge2 : 4294967296 ≤ qi2
          · by_cases hbr2 : xi2 + (a : Int) < 4294967296
            · clear hend2 hbig AW2
              have M2 := Lib.hid meas; clear meas
              go_wp2
              go_round
              case rel => exact ⟨q2 - 1, x2 + a, qi2 - 1, xi2 + (a : Int), rfl, rfl, HR2, t0.1, t0.2.1, t0.2.2, hbr2, HS2⟩
              case measure => exact M2.out
            · have HE2 := Lib.hid (hend2 hbr2)
              clear hend2 hbig AW2
              obtain ⟨f1, f2⟩ := FIN.out q1 (q2 - 1) HE1.out (by rw [← HRM.out]; exact HE2.out)
              obtain ⟨r0, hr0⟩ : ∃ r, r = (r1 * 4294967296 + z0) % Y := ⟨_, rfl⟩
              rw [← HRM.out, ← hr0] at f2
              have er0 : (q2 - 1) * Y + r0 = r1 * 4294967296 + z0 := by rw [hr0, HE2.out, Nat.mul_comm]; exact Nat.div_add_mod _ _
              have RR : IntKind.u64.wrap (IntKind.u64.wrap (IntKind.u64.wrap ((r1 : Int) * 4294967296) + (z0 : Int)) - IntKind.u64.wrap ((qi2 - 1) * (Y : Int))) = (r0 : Int) := by
                rw [HR2.out.1]; exact u64_three _ _ _ _ _ er0 (by have := Nat.mod_lt (r1 * 4294967296 + z0) (show 0 < Y by omega); omega) bz.2
              have GA : q1 * 4294967296 + (q2 - 1) = A := by rw [f1]; exact HA.out.1.symm
              have GR : (r0 : Int) / 2 ^ s = (R : Int) := by rw [HA.out.2, ← f2]; simp
              have HGA := Lib.hid GA; have HGR := Lib.hid GR; clear GA GR f1 f2 er0 hr0
              go_wp2
              go_ret2
              exact ⟨ret_two (by
                have e0 := HGA.out
                have e1 := hQ1.out.1
                have e2 := HR2.out.1
                have e3 := LA
                first | omega | (simp only [IntKind.wrap_u64]; omega)) (by first | exact HGR.out | (rw [RR]; exact HGR.out)), Dr.refl _⟩
          · have A2 := AW2 (by omega)
            have g2 : 4294967296 * xi2 + (z0 : Int) < Pi2 := by omega
            by_cases hbr2 : xi2 + (a : Int) < 4294967296
            · clear hend2 hbig AW2
              have M2 := Lib.hid meas; clear meas
              go_wp2
              go_round
              case rel => exact ⟨q2 - 1, x2 + a, qi2 - 1, xi2 + (a : Int), rfl, rfl, HR2, t0.1, t0.2.1, t0.2.2, hbr2, HS2⟩
              case measure => exact M2.out
            · have HE2 := Lib.hid (hend2 hbr2)
              clear hend2 hbig AW2
              obtain ⟨f1, f2⟩ := FIN.out q1 (q2 - 1) HE1.out (by rw [← HRM.out]; exact HE2.out)
              obtain ⟨r0, hr0⟩ : ∃ r, r = (r1 * 4294967296 + z0) % Y := ⟨_, rfl⟩
              rw [← HRM.out, ← hr0] at f2
              have er0 : (q2 - 1) * Y + r0 = r1 * 4294967296 + z0 := by rw [hr0, HE2.out, Nat.mul_comm]; exact Nat.div_add_mod _ _
              have RR : IntKind.u64.wrap (IntKind.u64.wrap (IntKind.u64.wrap ((r1 : Int) * 4294967296) + (z0 : Int)) - IntKind.u64.wrap ((qi2 - 1) * (Y : Int))) = (r0 : Int) := by
                rw [HR2.out.1]; exact u64_three _ _ _ _ _ er0 (by have := Nat.mod_lt (r1 * 4294967296 + z0) (show 0 < Y by omega); omega) bz.2
              have GA : q1 * 4294967296 + (q2 - 1) = A := by rw [f1]; exact HA.out.1.symm
              have GR : (r0 : Int) / 2 ^ s = (R : Int) := by rw [HA.out.2, ← f2]; simp
              have HGA := Lib.hid GA; have HGR := Lib.hid GR; clear GA GR f1 f2 er0 hr0
              go_wp2
              go_ret2
              exact ⟨ret_two (by
                have e0 := HGA.out
                have e1 := hQ1.out.1
                have e2 := HR2.out.1
                have e3 := LA
                first | omega | (simp only [IntKind.wrap_u64]; omega)) (by first | exact HGR.out | (rw [RR]; exact HGR.out)), Dr.refl _⟩
    · obtain ⟨b1, b2, b3⟩ := kn_big ba.1 bz.1 HU1.out hI1.out.1 (hbig hc1)
      rw [← HY.out] at b1
      have eT : qi1 - 1 = ((q1 - 1 : Nat) : Int) := by rw [hQ1.out.1]; omega
      have eX : xi1 + (a : Int) = ((x1 + a : Nat) : Int) := by rw [hQ1.out.2]; omega
      have hend2 : ¬ (xi1 + (a : Int) < 4294967296) → q1 - 1 = (u * 4294967296 + z1) / Y := by
        rw [eX]
        intro h
        have e := HY.out
        have e1 := hQ1.out.1
        rw [e] at b1 ⊢
        exact kn_end ba.1 bb b2 (by omega) (.inr ⟨by omega, by omega⟩)
      have meas : (qi1 - 1).toNat < (qi1).toNat := by have := hQ1.out.1; omega
      have t0 : 0 ≤ qi1 - 1 ∧ qi1 - 1 ≤ 4294967297 ∧ 0 ≤ xi1 + (a : Int) := ⟨by rw [eT]; omega, by omega, by rw [eX]; omega⟩
      have HR1 : Hid ((qi1 - 1) = ((q1 - 1 : Nat) : Int) ∧ xi1 + (a : Int) = ((x1 + a : Nat) : Int)) := Lib.hid ⟨eT, eX⟩
      have HS1 : Hid ((q1 - 1) * a + (x1 + a) = u ∧ (u * 4294967296 + z1) / Y ≤ q1 - 1) := Lib.hid ⟨b2, by omega⟩
      clear b1 b2 b3 eT eX hend
      by_cases hge1 : 4294967296 ≤ qi1
      · by_cases hbr1 : xi1 + (a : Int) < 4294967296
        · clear hend2 hbig AW1
          have M1 := Lib.hid meas; clear meas
          go_wp2
          go_round
          case rel => exact ⟨q1 - 1, x1 + a, qi1 - 1, xi1 + (a : Int), rfl, rfl, HR1, t0.1, t0.2.1, t0.2.2, hbr1, HS1⟩
          case measure => exact M1.out
        · have HE1 := Lib.hid (hend2 hbr1)
          clear hend2 hbig AW1
          obtain ⟨r1, hr1⟩ : ∃ r, r = (u * 4294967296 + z1) % Y := ⟨_, rfl⟩
          have lr1 : r1 < Y := by rw [hr1]; exact Nat.mod_lt _ (by omega)
          have er1 : (q1 - 1) * Y + r1 = u * 4294967296 + z1 := by rw [hr1, HE1.out, Nat.mul_comm]; exact Nat.div_add_mod _ _
          have T1 : IntKind.u64.wrap (IntKind.u64.wrap (IntKind.u64.wrap ((u : Int) * 4294967296) + (z1 : Int)) - IntKind.u64.wrap ((qi1 - 1) * (Y : Int))) = (r1 : Int) := by
            rw [HR1.out.1]; exact u64_three _ _ _ _ _ er1 (by omega) bz.1
          have T2 : IntKind.u64.wrap ((r1 : Int) / (a : Int)) = ((r1 / a : Nat) : Int) := u64_nat _ (Nat.lt_of_le_of_lt (Nat.div_le_self _ _) (by omega))
          have T3 := u64_mulrest r1 a (by omega)
          obtain ⟨p0, hp0⟩ : ∃ p, p = r1 / a := ⟨_, rfl⟩
          obtain ⟨x0, hx0⟩ : ∃ x, x = r1 % a := ⟨_, rfl⟩
          rw [← hp0] at T2 T3; rw [← hx0] at T3
          have hu2 : r1 < a * 4294967296 + b := by rw [← HY.out]; exact lr1
          obtain ⟨d1, d2, d3, d4⟩ := kn_start ba.1 ba.2 bb bz.2 hu2
          rw [← hp0, ← hx0] at d4; rw [← hp0] at d1 d3; rw [← hx0] at d2
          rw [← HY.out] at d3
          have HU2 := Lib.hid hu2; have HD3 := Lib.hid d3; have HD4 := Lib.hid d4; have HRM := Lib.hid hr1; have ER1 := Lib.hid er1
          clear hu2 d3 d4 hr1 er1 hp0 hx0
          go_wp2
          clear T2 T3
          go_loop [18, 16] (fun vq vx => ∃ (q x : Nat) (qi xi : Int), vq = .int .u64 qi ∧ vx = .int .u64 xi ∧ Hid (qi = (q : Int) ∧ xi = (x : Int)) ∧ 0 ≤ qi ∧ qi ≤ 4294967297 ∧ 0 ≤ xi ∧ xi < 4294967296 ∧ Hid (q * a + x = r1 ∧ (r1 * 4294967296 + z0) / Y ≤ q)) (fun vq _ => (intOf vq).toNat)
          case atStart => exact ⟨p0, x0, p0, x0, rfl, rfl, Lib.hid ⟨rfl, rfl⟩, by omega, by omega, by omega, by omega, Lib.hid ⟨HD4.out, HD3.out⟩⟩
          case round =>
            obtain ⟨q2, x2, qi2, xi2, rfl, rfl, hQ2, hq02, hq2, hx02, hx2, hI2⟩ := hrel
            have hPlt2 : qi2 < 4294967296 → q2 * b < 18446744073709551616 := fun h => by
              have e := hQ2.out.1
              have : q2 * b ≤ 4294967296 * b := Nat.mul_le_mul_right _ (by omega)
              omega
            obtain ⟨Pi2, hP2⟩ : ∃ P : Int, P = ((q2 * b : Nat) : Int) := ⟨_, rfl⟩
            have AW2 : qi2 < 4294967296 → IntKind.u64.wrap (qi2 * (b : Int)) = Pi2 := fun h => by rw [hP2, hQ2.out.1]; exact u64_mul _ _ _ rfl (hPlt2 h)
            have hbig : ¬ (qi2 < 4294967296 ∧ Pi2 ≤ 4294967296 * xi2 + (z0 : Int)) → 4294967296 ≤ q2 ∨ x2 * 4294967296 + z0 < q2 * b := by
              rw [hP2, hQ2.out.1, hQ2.out.2]
              generalize q2 * b = P
              intro h; omega
            have hend : qi2 < 4294967296 → Pi2 ≤ 4294967296 * xi2 + (z0 : Int) → q2 = (r1 * 4294967296 + z0) / Y := by
              have e := HY.out
              have i1 := hI2.out.1
              have i2 := hI2.out.2
              rw [hP2, hQ2.out.2]
              intro _ h
              rw [e] at i2 ⊢
              exact kn_end ba.1 bb i1 i2 (.inl (by omega))
            have HPT2 := Lib.hid hP2; clear hP2 hPlt2
            by_cases hc2 : qi2 < 4294967296 ∧ Pi2 ≤ 4294967296 * xi2 + (z0 : Int)
            · have A2 := AW2 hc2.1
              have HE2 := Lib.hid (hend hc2.1 hc2.2)
              obtain ⟨g1_2, g2_2⟩ := hc2
              clear hend AW2 hbig
              obtain ⟨f1, f2⟩ := FIN.out (q1 - 1) q2 HE1.out (by rw [← HRM.out]; exact HE2.out)
              obtain ⟨r0, hr0⟩ : ∃ r, r = (r1 * 4294967296 + z0) % Y := ⟨_, rfl⟩
              rw [← HRM.out, ← hr0] at f2
              have er0 : q2 * Y + r0 = r1 * 4294967296 + z0 := by rw [hr0, HE2.out, Nat.mul_comm]; exact Nat.div_add_mod _ _
              have RR : IntKind.u64.wrap (IntKind.u64.wrap (IntKind.u64.wrap ((r1 : Int) * 4294967296) + (z0 : Int)) - IntKind.u64.wrap (qi2 * (Y : Int))) = (r0 : Int) := by
                rw [hQ2.out.1]; exact u64_three _ _ _ _ _ er0 (by have := Nat.mod_lt (r1 * 4294967296 + z0) (show 0 < Y by omega); omega) bz.2
              have GA : (q1 - 1) * 4294967296 + q2 = A := by rw [f1]; exact HA.out.1.symm
              have GR : (r0 : Int) / 2 ^ s = (R : Int) := by rw [HA.out.2, ← f2]; simp
              have HGA := Lib.hid GA; have HGR := Lib.hid GR; clear GA GR f1 f2 er0 hr0
              go_wp2
              go_ret2
              exact ⟨ret_two (by
                have e0 := HGA.out
                have e1 := HR1.out.1
                have e2 := hQ2.out.1
                have e3 := LA
                first | omega | (simp only [IntKind.wrap_u64]; omega)) (by first | exact HGR.out | (rw [RR]; exact HGR.out)), Dr.refl _⟩
            · obtain ⟨b1, b2, b3⟩ := kn_big ba.1 bz.2 HU2.out hI2.out.1 (hbig hc2)
              rw [← HY.out] at b1
              have eT : qi2 - 1 = ((q2 - 1 : Nat) : Int) := by rw [hQ2.out.1]; omega
              have eX : xi2 + (a : Int) = ((x2 + a : Nat) : Int) := by rw [hQ2.out.2]; omega
              have hend2 : ¬ (xi2 + (a : Int) < 4294967296) → q2 - 1 = (r1 * 4294967296 + z0) / Y := by
                rw [eX]
                intro h
                have e := HY.out
                have e1 := hQ2.out.1
                rw [e] at b1 ⊢
                exact kn_end ba.1 bb b2 (by omega) (.inr ⟨by omega, by omega⟩)
              have meas : (qi2 - 1).toNat < (qi2).toNat := by have := hQ2.out.1; omega
              have t0 : 0 ≤ qi2 - 1 ∧ qi2 - 1 ≤ 4294967297 ∧ 0 ≤ xi2 + (a : Int) := ⟨by rw [eT]; omega, by omega, by rw [eX]; omega⟩
              have HR2 : Hid ((qi2 - 1) = ((q2 - 1 : Nat) : Int) ∧ xi2 + (a : Int) = ((x2 + a : Nat) : Int)) := Lib.hid ⟨eT, eX⟩
              have HS2 : Hid ((q2 - 1) * a + (x2 + a) = r1 ∧ (r1 * 4294967296 + z0) / Y ≤ q2 - 1) := Lib.hid ⟨b2, by omega⟩
              clear b1 b2 b3 eT eX hend
              by_cases hge2 : 4294967296 ≤ qi2
              · by_cases hbr2 : xi2 + (a : Int) < 4294967296
                · clear hend2 hbig AW2
                  have M2 := Lib.hid meas; clear meas
                  go_wp2
                  go_round
                  case rel => exact ⟨q2 - 1, x2 + a, qi2 - 1, xi2 + (a : Int), rfl, rfl, HR2, t0.1, t0.2.1, t0.2.2, hbr2, HS2⟩
                  case measure => exact M2.out
                · have HE2 := Lib.hid (hend2 hbr2)
                  clear hend2 hbig AW2
                  obtain ⟨f1, f2⟩ := FIN.out (q1 - 1) (q2 - 1) HE1.out (by rw [← HRM.out]; exact HE2.out)
                  obtain ⟨r0, hr0⟩ : ∃ r, r = (r1 * 4294967296 + z0) % Y := ⟨_, rfl⟩
                  rw [← HRM.out, ← hr0] at f2
                  have er0 : (q2 - 1) * Y + r0 = r1 * 4294967296 + z0 := by rw [hr0, HE2.out, Nat.mul_comm]; exact Nat.div_add_mod _ _
                  have RR : IntKind.u64.wrap (IntKind.u64.wrap (IntKind.u64.wrap ((r1 : Int) * 4294967296) + (z0 : Int)) - IntKind.u64.wrap ((qi2 - 1) * (Y : Int))) = (r0 : Int) := by
                    rw [HR2.out.1]; exact u64_three _ _ _ _ _ er0 (by have := Nat.mod_lt (r1 * 4294967296 + z0) (show 0 < Y by omega); omega) bz.2
                  have GA : (q1 - 1) * 4294967296 + (q2 - 1) = A := by rw [f1]; exact HA.out.1.symm
                  have GR : (r0 : Int) / 2 ^ s = (R : Int) := by rw [HA.out.2, ← f2]; simp
                  have HGA := Lib.hid GA; have HGR := Lib.hid GR; clear GA GR f1 f2 er0 hr0
                  go_wp2
                  go_ret2
                  exact ⟨ret_two (by
                    have e0 := HGA.out
                    have e1 := HR1.out.1
                    have e2 := HR2.out.1
                    have e3 := LA
                    first | omega | (simp only [IntKind.wrap_u64]; omega)) (by first | exact HGR.out | (rw [RR]; exact HGR.out)), Dr.refl _⟩
              · have A2 := AW2 (by omega)
                have g2 : 4294967296 * xi2 + (z0 : Int) < Pi2 := by omega
                by_cases hbr2 : xi2 + (a : Int) < 4294967296
                · clear hend2 hbig AW2
                  have M2 := Lib.hid meas; clear meas
                  go_wp2
                  go_round
                  case rel => exact ⟨q2 - 1, x2 + a, qi2 - 1, xi2 + (a : Int), rfl, rfl, HR2, t0.1, t0.2.1, t0.2.2, hbr2, HS2⟩
                  case measure => exact M2.out
                · have HE2 := Lib.hid (hend2 hbr2)
                  clear hend2 hbig AW2
                  obtain ⟨f1, f2⟩ := FIN.out (q1 - 1) (q2 - 1) HE1.out (by rw [← HRM.out]; exact HE2.out)
                  obtain ⟨r0, hr0⟩ : ∃ r, r = (r1 * 4294967296 + z0) % Y := ⟨_, rfl⟩
                  rw [← HRM.out, ← hr0] at f2
                  have er0 : (q2 - 1) * Y + r0 = r1 * 4294967296 + z0 := by rw [hr0, HE2.out, Nat.mul_comm]; exact Nat.div_add_mod _ _
                  have RR : IntKind.u64.wrap (IntKind.u64.wrap (IntKind.u64.wrap ((r1 : Int) * 4294967296) + (z0 : Int)) - IntKind.u64.wrap ((qi2 - 1) * (Y : Int))) = (r0 : Int) := by
                    rw [HR2.out.1]; exact u64_three _ _ _ _ _ er0 (by have := Nat.mod_lt (r1 * 4294967296 + z0) (show 0 < Y by omega); omega) bz.2
                  have GA : (q1 - 1) * 4294967296 + (q2 - 1) = A := by rw [f1]; exact HA.out.1.symm
                  have GR : (r0 : Int) / 2 ^ s = (R : Int) := by rw [HA.out.2, ← f2]; simp
                  have HGA := Lib.hid GA; have HGR := Lib.hid GR; clear GA GR f1 f2 er0 hr0
                  go_wp2
                  go_ret2
                  exact ⟨ret_two (by
                    have e0 := HGA.out
                    have e1 := HR1.out.1
                    have e2 := HR2.out.1
                    have e3 := LA
                    first | omega | (simp only [IntKind.wrap_u64]; omega)) (by first | exact HGR.out | (rw [RR]; exact HGR.out)), Dr.refl _⟩
      · have A1 := AW1 (by omega)
        have g1 : 4294967296 * xi1 + (z1 : Int) < Pi1 := by omega
        by_cases hbr1 : xi1 + (a : Int) < 4294967296
        · clear hend2 hbig AW1
          have M1 := Lib.hid meas; clear meas
          go_wp2
          go_round
          case rel => exact ⟨q1 - 1, x1 + a, qi1 - 1, xi1 + (a : Int), rfl, rfl, HR1, t0.1, t0.2.1, t0.2.2, hbr1, HS1⟩
          case measure => exact M1.out
        · have HE1 := Lib.hid (hend2 hbr1)
          clear hend2 hbig AW1
          obtain ⟨r1, hr1⟩ : ∃ r, r = (u * 4294967296 + z1) % Y := ⟨_, rfl⟩
          have lr1 : r1 < Y := by rw [hr1]; exact Nat.mod_lt _ (by omega)
          have er1 : (q1 - 1) * Y + r1 = u * 4294967296 + z1 := by rw [hr1, HE1.out, Nat.mul_comm]; exact Nat.div_add_mod _ _
          have T1 : IntKind.u64.wrap (IntKind.u64.wrap (IntKind.u64.wrap ((u : Int) * 4294967296) + (z1 : Int)) - IntKind.u64.wrap ((qi1 - 1) * (Y : Int))) = (r1 : Int) := by
            rw [HR1.out.1]; exact u64_three _ _ _ _ _ er1 (by omega) bz.1
          have T2 : IntKind.u64.wrap ((r1 : Int) / (a : Int)) = ((r1 / a : Nat) : Int) := u64_nat _ (Nat.lt_of_le_of_lt (Nat.div_le_self _ _) (by omega))
          have T3 := u64_mulrest r1 a (by omega)
          obtain ⟨p0, hp0⟩ : ∃ p, p = r1 / a := ⟨_, rfl⟩
          obtain ⟨x0, hx0⟩ : ∃ x, x = r1 % a := ⟨_, rfl⟩
          rw [← hp0] at T2 T3; rw [← hx0] at T3
          have hu2 : r1 < a * 4294967296 + b := by rw [← HY.out]; exact lr1
          obtain ⟨d1, d2, d3, d4⟩ := kn_start ba.1 ba.2 bb bz.2 hu2
          rw [← hp0, ← hx0] at d4; rw [← hp0] at d1 d3; rw [← hx0] at d2
          rw [← HY.out] at d3
          have HU2 := Lib.hid hu2; have HD3 := Lib.hid d3; have HD4 := Lib.hid d4; have HRM := Lib.hid hr1; have ER1 := Lib.hid er1
          clear hu2 d3 d4 hr1 er1 hp0 hx0
          go_wp2
          clear T2 T3
          go_loop [18, 16] (fun vq vx => ∃ (q x : Nat) (qi xi : Int), vq = .int .u64 qi ∧ vx = .int .u64 xi ∧ Hid (qi = (q : Int) ∧ xi = (x : Int)) ∧ 0 ≤ qi ∧ qi ≤ 4294967297 ∧ 0 ≤ xi ∧ xi < 4294967296 ∧ Hid (q * a + x = r1 ∧ (r1 * 4294967296 + z0) / Y ≤ q)) (fun vq _ => (intOf vq).toNat)
          case atStart => exact ⟨p0, x0, p0, x0, rfl, rfl, Lib.hid ⟨rfl, rfl⟩, by omega, by omega, by omega, by omega, Lib.hid ⟨HD4.out, HD3.out⟩⟩
          case round =>
            obtain ⟨q2, x2, qi2, xi2, rfl, rfl, hQ2, hq02, hq2, hx02, hx2, hI2⟩ := hrel
            have hPlt2 : qi2 < 4294967296 → q2 * b < 18446744073709551616 := fun h => by
              have e := hQ2.out.1
              have : q2 * b ≤ 4294967296 * b := Nat.mul_le_mul_right _ (by omega)
              omega
            obtain ⟨Pi2, hP2⟩ : ∃ P : Int, P = ((q2 * b : Nat) : Int) := ⟨_, rfl⟩
            have AW2 : qi2 < 4294967296 → IntKind.u64.wrap (qi2 * (b : Int)) = Pi2 := fun h => by rw [hP2, hQ2.out.1]; exact u64_mul _ _ _ rfl (hPlt2 h)
            have hbig : ¬ (qi2 < 4294967296 ∧ Pi2 ≤ 4294967296 * xi2 + (z0 : Int)) → 4294967296 ≤ q2 ∨ x2 * 4294967296 + z0 < q2 * b := by
              rw [hP2, hQ2.out.1, hQ2.out.2]
              generalize q2 * b = P
              intro h; omega
            have hend : qi2 < 4294967296 → Pi2 ≤ 4294967296 * xi2 + (z0 : Int) → q2 = (r1 * 4294967296 + z0) / Y := by
              have e := HY.out
              have i1 := hI2.out.1
              have i2 := hI2.out.2
              rw [hP2, hQ2.out.2]
              intro _ h
              rw [e] at i2 ⊢
              exact kn_end ba.1 bb i1 i2 (.inl (by omega))
            have HPT2 := Lib.hid hP2; clear hP2 hPlt2
            by_cases hc2 : qi2 < 4294967296 ∧ Pi2 ≤ 4294967296 * xi2 + (z0 : Int)
            · have A2 := AW2 hc2.1
              have HE2 := Lib.hid (hend hc2.1 hc2.2)
              obtain ⟨g1_2, g2_2⟩ := hc2
              clear hend AW2 hbig
              obtain ⟨f1, f2⟩ := FIN.out (q1 - 1) q2 HE1.out (by rw [← HRM.out]; exact HE2.out)
              obtain ⟨r0, hr0⟩ : ∃ r, r = (r1 * 4294967296 + z0) % Y := ⟨_, rfl⟩
              rw [← HRM.out, ← hr0] at f2
              have er0 : q2 * Y + r0 = r1 * 4294967296 + z0 := by rw [hr0, HE2.out, Nat.mul_comm]; exact Nat.div_add_mod _ _
              have RR : IntKind.u64.wrap (IntKind.u64.wrap (IntKind.u64.wrap ((r1 : Int) * 4294967296) + (z0 : Int)) - IntKind.u64.wrap (qi2 * (Y : Int))) = (r0 : Int) := by
                rw [hQ2.out.1]; exact u64_three _ _ _ _ _ er0 (by have := Nat.mod_lt (r1 * 4294967296 + z0) (show 0 < Y by omega); omega) bz.2
              have GA : (q1 - 1) * 4294967296 + q2 = A := by rw [f1]; exact HA.out.1.symm
              have GR : (r0 : Int) / 2 ^ s = (R : Int) := by rw [HA.out.2, ← f2]; simp
              have HGA := Lib.hid GA; have HGR := Lib.hid GR; clear GA GR f1 f2 er0 hr0
              go_wp2
              go_ret2
              exact ⟨ret_two (by
                have e0 := HGA.out
                have e1 := HR1.out.1
                have e2 := hQ2.out.1
                have e3 := LA
                first | omega | (simp only [IntKind.wrap_u64]; omega)) (by first | exact HGR.out | (rw [RR]; exact HGR.out)), Dr.refl _⟩
            · obtain ⟨b1, b2, b3⟩ := kn_big ba.1 bz.2 HU2.out hI2.out.1 (hbig hc2)
              rw [← HY.out] at b1
              have eT : qi2 - 1 = ((q2 - 1 : Nat) : Int) := by rw [hQ2.out.1]; omega
              have eX : xi2 + (a : Int) = ((x2 + a : Nat) : Int) := by rw [hQ2.out.2]; omega
              have hend2 : ¬ (xi2 + (a : Int) < 4294967296) → q2 - 1 = (r1 * 4294967296 + z0) / Y := by
                rw [eX]
                intro h
                have e := HY.out
                have e1 := hQ2.out.1
                rw [e] at b1 ⊢
                exact kn_end ba.1 bb b2 (by omega) (.inr ⟨by omega, by omega⟩)
              have meas : (qi2 - 1).toNat < (qi2).toNat := by have := hQ2.out.1; omega
              have t0 : 0 ≤ qi2 - 1 ∧ qi2 - 1 ≤ 4294967297 ∧ 0 ≤ xi2 + (a : Int) := ⟨by rw [eT]; omega, by omega, by rw [eX]; omega⟩
              have HR2 : Hid ((qi2 - 1) = ((q2 - 1 : Nat) : Int) ∧ xi2 + (a : Int) = ((x2 + a : Nat) : Int)) := Lib.hid ⟨eT, eX⟩
              have HS2 : Hid ((q2 - 1) * a + (x2 + a) = r1 ∧ (r1 * 4294967296 + z0) / Y ≤ q2 - 1) := Lib.hid ⟨b2, by omega⟩
              clear b1 b2 b3 eT eX hend
              by_cases hge2 : 4294967296 ≤ qi2
              · by_cases hbr2 : xi2 + (a : Int) < 4294967296
                · clear hend2 hbig AW2
                  have M2 := Lib.hid meas; clear meas
                  go_wp2
                  go_round
                  case rel => exact ⟨q2 - 1, x2 + a, qi2 - 1, xi2 + (a : Int), rfl, rfl, HR2, t0.1, t0.2.1, t0.2.2, hbr2, HS2⟩
                  case measure => exact M2.out
                · have HE2 := Lib.hid (hend2 hbr2)
                  clear hend2 hbig AW2
                  obtain ⟨f1, f2⟩ := FIN.out (q1 - 1) (q2 - 1) HE1.out (by rw [← HRM.out]; exact HE2.out)
                  obtain ⟨r0, hr0⟩ : ∃ r, r = (r1 * 4294967296 + z0) % Y := ⟨_, rfl⟩
                  rw [← HRM.out, ← hr0] at f2
                  have er0 : (q2 - 1) * Y + r0 = r1 * 4294967296 + z0 := by rw [hr0, HE2.out, Nat.mul_comm]; exact Nat.div_add_mod _ _
                  have RR : IntKind.u64.wrap (IntKind.u64.wrap (IntKind.u64.wrap ((r1 : Int) * 4294967296) + (z0 : Int)) - IntKind.u64.wrap ((qi2 - 1) * (Y : Int))) = (r0 : Int) := by
                    rw [HR2.out.1]; exact u64_three _ _ _ _ _ er0 (by have := Nat.mod_lt (r1 * 4294967296 + z0) (show 0 < Y by omega); omega) bz.2
                  have GA : (q1 - 1) * 4294967296 + (q2 - 1) = A := by rw [f1]; exact HA.out.1.symm
                  have GR : (r0 : Int) / 2 ^ s = (R : Int) := by rw [HA.out.2, ← f2]; simp
                  have HGA := Lib.hid GA; have HGR := Lib.hid GR; clear GA GR f1 f2 er0 hr0
                  go_wp2
                  go_ret2
                  exact ⟨ret_two (by
                    have e0 := HGA.out
                    have e1 := HR1.out.1
                    have e2 := HR2.out.1
                    have e3 := LA
                    first | omega | (simp only [IntKind.wrap_u64]; omega)) (by first | exact HGR.out | (rw [RR]; exact HGR.out)), Dr.refl _⟩
              · have A2 := AW2 (by omega)
                have g2 : 4294967296 * xi2 + (z0 : Int) < Pi2 := by omega
                by_cases hbr2 : xi2 + (a : Int) < 4294967296
                · clear hend2 hbig AW2
                  have M2 := Lib.hid meas; clear meas
                  go_wp2
                  go_round
                  case rel => exact ⟨q2 - 1, x2 + a, qi2 - 1, xi2 + (a : Int), rfl, rfl, HR2, t0.1, t0.2.1, t0.2.2, hbr2, HS2⟩
                  case measure => exact M2.out
                · have HE2 := Lib.hid (hend2 hbr2)
                  clear hend2 hbig AW2
                  obtain ⟨f1, f2⟩ := FIN.out (q1 - 1) (q2 - 1) HE1.out (by rw [← HRM.out]; exact HE2.out)
                  obtain ⟨r0, hr0⟩ : ∃ r, r = (r1 * 4294967296 + z0) % Y := ⟨_, rfl⟩
                  rw [← HRM.out, ← hr0] at f2
                  have er0 : (q2 - 1) * Y + r0 = r1 * 4294967296 + z0 := by rw [hr0, HE2.out, Nat.mul_comm]; exact Nat.div_add_mod _ _
                  have RR : IntKind.u64.wrap (IntKind.u64.wrap (IntKind.u64.wrap ((r1 : Int) * 4294967296) + (z0 : Int)) - IntKind.u64.wrap ((qi2 - 1) * (Y : Int))) = (r0 : Int) := by
                    rw [HR2.out.1]; exact u64_three _ _ _ _ _ er0 (by have := Nat.mod_lt (r1 * 4294967296 + z0) (show 0 < Y by omega); omega) bz.2
                  have GA : (q1 - 1) * 4294967296 + (q2 - 1) = A := by rw [f1]; exact HA.out.1.symm
                  have GR : (r0 : Int) / 2 ^ s = (R : Int) := by rw [HA.out.2, ← f2]; simp
                  have HGA := Lib.hid GA; have HGR := Lib.hid GR; clear GA GR f1 f2 er0 hr0
                  go_wp2
                  go_ret2
                  exact ⟨ret_two (by
                    have e0 := HGA.out
                    have e1 := HR1.out.1
                    have e2 := HR2.out.1
                    have e3 := LA
                    first | omega | (simp only [IntKind.wrap_u64]; omega)) (by first | exact HGR.out | (rw [RR]; exact HGR.out)), Dr.refl _⟩
end Go.Proofs.YtbbbmlnggehcdaaDoor
