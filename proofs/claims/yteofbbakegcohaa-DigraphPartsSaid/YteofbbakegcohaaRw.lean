/- The reference's Weights, Next and Longest. -/
import Derived.Test.YteofbbakegcohaaLm
namespace Go.Proofs.Yteofbbakegcohaa
open Go.ChangeShapes Go.WideShapes Go.ChangeAt Go.RowKit
set_option linter.unusedVariables false
set_option linter.unusedSimpArgs false


def wE (n : Int) (ws : List Int) : Int := if (ws.length : Int) ≠ n then 3 else if ws.any (outN 1073741825) = true then 2 else 0
set_option maxRecDepth 100000 in
theorem rweights_any (n : Nat) (w : World) (o : Value) (os : List Int) (hO : Rdz w o os) (hol : os.length ≤ 100000) :
    Calls Try.prog 21 #[.int .i64 n, o] w fun e w' => e = .returned (.int .i64 (wE n os)) ∧ w = w' := by
  obtain ⟨q, c, rfl, k1⟩ := hO
  have K1 := Lib.hid k1
  clear k1
  by_cases h1 : (os.length : Int) = (n : Int)
  · have hc : wE n os = if os.any (outN 1073741825) = true then 2 else 0 := by unfold wE; rw [if_neg (by simpa using h1)]
    have t1 : ((os.length : Int) != (n : Int)) = false := by simp [h1]
    have HC := Lib.hid hc
    obtain rfl : os.length = n := by omega
    obtain ⟨Z, hZ⟩ : ∃ Z, Z = wE (os.length : Nat) os := ⟨_, rfl⟩
    rw [← hZ]
    have HZ := Lib.hid hZ
    clear hc h1 hZ
    go_enter Try.func21, Try.ntmps21
    go_wp2
    go_loop [5] (fun v => ∃ k : Nat, v = .int .i64 k ∧ k ≤ os.length ∧ Hid (∀ x ∈ os.take k, outN 1073741825 x = false)) (fun v => os.length - (intOf v).toNat)
    case atStart => exact ⟨0, rfl, Nat.zero_le _, Lib.hid (by simp)⟩
    case round =>
      obtain ⟨k, rfl, hk, hG⟩ := hrel
      by_cases hlt : k < os.length
      · have g1 : decide ((k : Int) < (os.length : Int)) = true := by simp [hlt]
        have W1 : IntKind.i64.wrap ((k : Int) + 1) = ((k + 1 : Nat) : Int) := by rw [IntWalk.i64_in _ (by omega)]; omega
        have q1 : (0 : Int) ≤ (k : Int) := by omega
        have q2 : (k : Int) < (os.length : Int) := by omega
        obtain ⟨a, rfl, d0⟩ := K1.out k hlt
        have HM : Hid (outN 1073741825 os[k] = true → os.any (outN 1073741825) = true) := Lib.hid fun h => List.any_eq_true.2 ⟨_, List.getElem_mem hlt, h⟩
        have HT : Hid (outN 1073741825 os[k] = false → ∀ x ∈ os.take (k + 1), outN 1073741825 x = false) := Lib.hid fun h x hx => by
          rw [List.take_succ_eq_append_getElem hlt, List.mem_append] at hx
          rcases hx with hx | hx
          · exact hG.out x hx
          · rw [List.mem_singleton.1 hx]; exact h
        obtain ⟨y, hyy⟩ : ∃ y, y = os[k] := ⟨_, rfl⟩
        rw [← hyy] at d0 HM HT
        clear hyy
        by_cases c1 : y < 0
        · have HZ2 : Hid (Z = 2) := Lib.hid (by rw [HZ.out, HC.out, if_pos (HM.out (by simp [outN, wi]; omega))])
          go_wp2
          go_ret
          exact ⟨by rw [HZ2.out]; rfl, rfl⟩
        by_cases c2 : 1073741824 < y
        · have HZ2 : Hid (Z = 2) := Lib.hid (by rw [HZ.out, HC.out, if_pos (HM.out (by simp [outN, wi]; omega))])
          go_wp2
          go_ret
          exact ⟨by rw [HZ2.out]; rfl, rfl⟩
        · have HG : Hid (∀ x ∈ os.take (k + 1), outN 1073741825 x = false) := Lib.hid (HT.out (by simp [outN, wi]; omega))
          go_wp2
          go_round
          case rel => exact ⟨k + 1, by go_num, hlt, HG⟩
          case measure => simp [intOf]; omega
      · have g1 : decide ((k : Int) < (os.length : Int)) = false := by simp; omega
        have hany : os.any (outN 1073741825) = false := List.any_eq_false.2 fun x hx => by
          have := hG.out x (by rw [List.take_of_length_le (by omega)]; exact hx)
          rw [this]; simp
        have HZ2 : Hid (Z = 0) := Lib.hid (by rw [HZ.out, HC.out, hany]; simp)
        clear hany hG HC HZ
        go_wp2
        go_ret
        exact ⟨by rw [HZ2.out]; rfl, rfl⟩
  · have e : wE n os = 3 := by unfold wE; rw [if_pos h1]
    rw [e]
    have t1 : ((os.length : Int) != (n : Int)) = true := by simpa using h1
    clear e h1
    go_enter Try.func21, Try.ntmps21
    go_wp2
    go_ret
    exact ⟨rfl, rfl⟩
/-- Where the first k edges lead to from a node. -/
def nxk (l : List (Nat × Nat)) (v k x : Nat) : Bool := (l.take k).any fun e => e.1 == v && e.2 == x
theorem nxk_next {l : List (Nat × Nat)} {k : Nat} (hk : k < l.length) (v x : Nat) : nxk l v (k + 1) x = (nxk l v k x || (l[k].1 == v && l[k].2 == x)) := by
  unfold nxk
  rw [List.take_succ_eq_append_getElem hk, List.any_append]; simp
theorem nxk_end (l : List (Nat × Nat)) (v x : Nat) : nxk l v l.length x = (adj l v).contains x := by
  unfold nxk
  rw [List.take_length, Bool.eq_iff_iff, List.any_eq_true, List.contains_iff_mem, mem_adj]
  constructor
  · rintro ⟨e, he, h⟩
    simp at h
    rw [← h.1, ← h.2]; exact he
  · intro h
    exact ⟨_, h, by simp⟩
set_option maxRecDepth 100000 in
theorem rnext_any (p : Option Addr) (n v : Nat) (l : List (Nat × Nat)) (cap : Nat) (w : World) (hG : Gr w p n l) :
    Calls Try.prog 52 #[.int .i64 n, .slice p l.length cap, .int .i64 v] w fun e w' => ∃ g, e = .returned (.slice (some ⟨g, 0, none⟩) n n) ∧ w.heap.size ≤ g ∧ RowB w' g n (fun x => (adj l v).contains x) ∧ Below w.heap.size w w' := by
  have hn := hG.2.2.1
  have hm := hG.2.1
  obtain ⟨b0, hb, hb0, hb1, hb2⟩ := info_parts info4
  go_enter Try.func52, Try.ntmps52
  go_wp2_with (at_make; refine wpList_make_full _ rfl _ _ 65 rfl w.heap.size 4 b0 _ 1 Try.underlying65 hb hb0 hb1 _ _ _ _ n rfl rfl rfl rfl (by rw [hb2]; omega) (by unfold maxLen; omega) (Nat.le_refl _) ?_)
  intro w1 hown hgrow
  have hR := Lib.hid ((rowb_zero hown).cong (f' := nxk l v 0) fun i _ => by simp [nxk])
  have hB := below_grown (Below.refl _ w) hgrow (Nat.le_refl _)
  clear hown hgrow
  go_wp2
  go_loopw [8] (fun x wr => ∃ k : Nat, x = .int .i64 k ∧ k ≤ l.length ∧ Hid (RowB wr w.heap.size n (nxk l v k)) ∧ Below w.heap.size w wr) (fun x _ => l.length - (intOf x).toNat)
  case atStart => exact ⟨0, rfl, Nat.zero_le _, hR, hB⟩
  case round =>
    clear hR hB
    obtain ⟨k, rfl, hk, hR, hB⟩ := hrel
    by_cases hlt : k < l.length
    · have g1 : decide ((k : Int) < (l.length : Int)) = true := by simp [hlt]
      have W1 : IntKind.i64.wrap ((k : Int) + 1) = ((k + 1 : Nat) : Int) := by rw [IntWalk.i64_in _ (by omega)]; omega
      have q1 : (0 : Int) ≤ (k : Int) := by omega
      have q2 : (k : Int) < (l.length : Int) := by omega
      obtain ⟨a, rfl, d0, d1, l1, l2⟩ := (hG.on hB).at hlt
      have HN := Lib.hid (nxk_next hlt v)
      obtain ⟨x, hxx⟩ : ∃ x, x = l[k].1 := ⟨_, rfl⟩
      obtain ⟨y, hyy⟩ : ∃ y, y = l[k].2 := ⟨_, rfl⟩
      rw [← hxx] at d0 l1 HN
      rw [← hyy] at d1 l2 HN
      clear hxx hyy
      have p3 : (0 : Int) ≤ (y : Int) := by omega
      have p4 : (y : Int) < (n : Int) := by omega
      by_cases hx : x = v
      · have t1 : ((x : Int) == (v : Int)) = true := by simp; omega
        obtain ⟨z, hz⟩ : ∃ z, z = nxk l v k y := ⟨_, rfl⟩
        have c2 := hR.out.read l2
        rw [← hz] at c2
        have f2 := Has.open_ hR.out y
        have HR2 := Lib.hid ((hR.out.put y true).cong (f' := nxk l v (k + 1)) fun i _ => by
          rw [HN.out]
          unfold upd
          by_cases e : i = y
          · subst e; simp [hx]
          · simp [e, Ne.symm e])
        clear hz hx
        go_wp2
        exact ⟨⟨k + 1, rfl, hlt, HR2, hB.setCell (Nat.le_refl _) _⟩, by simp [intOf]; omega⟩
      · have t1 : ((x : Int) == (v : Int)) = false := by simp; omega
        have HR2 := Lib.hid (hR.out.cong (f' := nxk l v (k + 1)) fun i _ => by rw [HN.out]; simp [hx])
        clear hx
        go_wp2
        exact ⟨⟨k + 1, rfl, hlt, HR2, hB⟩, by simp [intOf]; omega⟩
    · have g1 : decide ((k : Int) < (l.length : Int)) = false := by simp; omega
      have e : k = l.length := by omega
      subst e
      have HR2 := Lib.hid (hR.out.cong (f' := fun x => (adj l v).contains x) fun i _ => nxk_end l v i)
      go_wp2
      go_ret
      exact ⟨_, rfl, Nat.le_refl _, HR2.out, hB⟩
end Go.Proofs.Yteofbbakegcohaa
