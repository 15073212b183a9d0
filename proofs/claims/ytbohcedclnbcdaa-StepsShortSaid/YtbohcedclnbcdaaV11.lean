/- Short and Pulse, of both. -/
import Derived.Test.YtbohcedclnbcdaaV10
namespace Go.Proofs.Ytbohcedclnbcdaa
open Go.ChangeShapes Go.WideShapes Go.ChangeAt Go.RowKit
set_option linter.unusedVariables false
set_option linter.unusedSimpArgs false

theorem tg_none_b (n : Nat) (p : Int) (l : List Stp) (h : l.length ≤ n) : opl o45 (tg n p 0 l []) = l := by
  induction n generalizing p l with
  | zero =>
    have e := List.eq_nil_of_length_eq_zero (show l.length = 0 by omega)
    subst e; rfl
  | succ n ih =>
    cases l with
    | nil => rfl
    | cons s l =>
      rw [tg_some (show nx (s :: l) [] = some s.1 from rfl), ad_yes rfl]
      show (s.1, s.2 + 0) :: opl o45 (tg n s.2 0 l []) = s :: l
      rw [ih s.2 l (by simpa using h), Int.add_zero]
theorem rs_nil {l : List Stp} (h : OkS l) : rs o45 l [] = (sht l, 0) := by
  have e : opl o45 (tog l []) = l := tg_none_b _ 0 l (by simp)
  have h1 : l.all (fun s => ara s.2) = true := List.all_eq_true.2 h.ar
  have h2 : (sht l).length ≤ 200 := Nat.le_trans shF_sub.length_le h.len
  unfold rs
  rw [okS_of h, if_pos (by rfl)]
  unfold cmb
  simp only [e, h1, if_true, if_pos h2]
def sc (l : List Stp) : List Stp × Int := if okS l then (sht l, 0) else ([], 1)
theorem rs_sc (l : List Stp) : rs o45 l [] = sc l := by
  cases h : okS l
  · unfold rs sc; rw [h]; rfl
  · rw [rs_nil (okS_to h)]; unfold sc; rw [h]; rfl
set_option maxRecDepth 100000 in
theorem short_any (p : Option Addr) (l : List Stp) (c : Nat) (w : World) (hS : Sl w p l) :
    Calls Try.prog 14 #[.slice p l.length c] w fun e w' => ∃ v, e = .returned (.tuple #[v, .int .i64 (sc l).2]) ∧ OwnS w.heap.size w' v (sc l).1 ∧ Below w.heap.size w w' := by
  have h := add_any p none l [] c 0 w hS ⟨fun _ => rfl, fun a ha => (by cases ha), Nat.zero_le _, fun x hx => (by cases hx)⟩
  rw [rs_sc] at h
  simp only [List.length_nil] at h
  generalize sc l = R at *
  go_enter Try.func14, Try.ntmps14
  go_wp2_with (go_at_call 20; (with_reducible refine h.mono ?_); rintro e w1 ⟨v, rfl, ho, hb⟩)
  exact bodyPost_ret (v := .tuple #[v, .int .i64 R.2]) (by simp [results, Try.results14, go_sem]) rfl ⟨v, rfl, ho, hb⟩
theorem sht_take {l : List Stp} {k : Nat} (hk : k < l.length) : sht (l.take (k + 1)) = sht (l.take k) ++ (if l[k].2 = lastv 0 (l.take k) then [] else [l[k]]) := by
  unfold sht
  rw [List.take_succ_eq_append_getElem hk, shF_snoc]
theorem lastv_take {l : List Stp} {k : Nat} (hk : k < l.length) : lastv 0 (l.take (k + 1)) = l[k].2 := by
  rw [List.take_succ_eq_append_getElem hk, lastv_snoc]
set_option maxHeartbeats 2000000 in
set_option maxRecDepth 100000 in
theorem rshort_any (p : Option Addr) (l : List Stp) (cap : Nat) (w : World) (hS : Sl w p l) (hl : l.length ≤ 1000) :
    Calls Try.prog 19 #[.slice p l.length cap] w fun e w' => ∃ v, e = .returned v ∧ OwnS w.heap.size w' v (sht l) ∧ Below w.heap.size w w' := by
  have hm := hS.2.2.1
  unfold maxLen at hm
  obtain ⟨i0, hi, hz0, hz1, hz2⟩ := info_parts info34
  go_enter Try.func19, Try.ntmps19
  go_wp2
  go_loopw [3, 4, 5] (fun v s i wr => ∃ k : Nat, i = .int .i64 k ∧ k ≤ l.length ∧ s = .int .i64 (lastv 0 (l.take k)) ∧ OwnS w.heap.size wr v (sht (l.take k)) ∧ Below w.heap.size w wr) (fun v s i _ => l.length - (intOf i).toNat)
  case atStart => exact ⟨0, rfl, Nat.zero_le _, rfl, OwnS.nil _ _, Below.refl _ _⟩
  case round =>
    obtain ⟨k, rfl, hk, rfl, ho, hB⟩ := hrel
    by_cases hlt : k < l.length
    · have g1 : decide ((k : Int) < (l.length : Int)) = true := by simp [hlt]
      obtain ⟨a, rfl, c0, c1⟩ := (hS.on hB).at hlt
      have W1 : IntKind.i64.wrap ((k : Int) + 1) = ((k + 1 : Nat) : Int) := by rw [IntWalk.i64_in _ (by omega)]; omega
      have q1 : (0 : Int) ≤ (k : Int) := by omega
      have q2 : (k : Int) < (l.length : Int) := by omega
      have HT := Lib.hid (sht_take hlt)
      have HV := Lib.hid (lastv_take hlt)
      have hlen : Hid ((sht (l.take k)).length ≤ 1000) := Lib.hid (by
        have h1 := (shF_sub (l := l.take k) (v := 0)).length_le
        have h2 := List.length_take_le k l
        unfold sht; omega)
      have HD := Lib.hid (fun (w5 : World) (h : Below w.heap.size w w5) => (hS.on h).at hlt)
      obtain ⟨u, hu⟩ : ∃ u, u = l[k] := ⟨_, rfl⟩
      rw [← hu] at c0 c1 HT HV HD
      clear hu
      obtain ⟨s, t⟩ := u
      generalize lastv 0 (l.take k) = x at *
      simp only at c0 c1 HT HV HD
      by_cases hx : t = x
      · have t1 : (t != x) = false := by simp [hx]
        have HX := Lib.hid hx
        clear hx
        go_wp2
        exact ⟨⟨k + 1, rfl, hlt, by rw [HV.out], by rw [HT.out, if_pos HX.out, List.append_nil]; exact ho, hB⟩, by simp [intOf]; omega⟩
      · have t1 : (t != x) = true := by simp [hx]
        have HX := Lib.hid hx
        clear hx
        have HN := Has.new_ wr 34 #[.int .i64 s, .int .i64 t]
        have hcl : ∀ (j : Nat) (u : Value), [Value.int .i64 s, Value.int .i64 t][j]? = some u → (wr.alloc (.cells #[.int .i64 s, .int .i64 t] 34)).cell? ((⟨wr.heap.size, 0, none⟩ : Addr).add j) = some u := fun j u h => by
          rw [Addr.add_lit, Nat.zero_add, HN.read j]
          simpa using h
        have ho1 := ho.on (al1 wr (.cells #[.int .i64 s, .int .i64 t] 34))
        have hbk := World.ownsRow.lt ho
        have BN := al hB (.cells #[.int .i64 s, .int .i64 t] 34)
        clear HN ho
        go_wp2_with (at_builtin; refine wpList_append_own_at _ rfl _ _ 22 rfl w.heap.size 34 i0 _ 2 16 Try.underlying22 hi hz0 hz1 hz2 rfl (by decide) _ _ _ rfl ho1 ⟨wr.heap.size, 0, none⟩ 1 1 [.int .i64 s, .int .i64 t] rfl rfl hcl (by simp [Value.oneCell']) (by have := hlen.out; unfold maxLen; omega) (by have := hlen.out; omega) (by have := hB.size; simp; omega) ?_; intro v' w5 hown' hgrow _ _; have B5 := BN.grown hgrow BN.size (fun k e => (hbk _ e).1); obtain ⟨a5, e5, d0, d1⟩ := HD.out w5 B5; cases e5)
        exact ⟨⟨k + 1, rfl, hlt, by rw [HV.out], by
          rw [HT.out, if_neg HX.out]
          unfold OwnS; rw [List.length_append, cells_app]; exact hown', B5⟩, by simp [intOf]; omega⟩
    · have g1 : decide ((k : Int) < (l.length : Int)) = false := by simp; omega
      have e : Hid (l.take k = l) := Lib.hid (List.take_of_length_le (by omega))
      go_wp2
      go_ret
      exact ⟨_, rfl, by rw [← e.out]; rw [e.out] at ho ⊢; exact ho, hB⟩
end Go.Proofs.Ytbohcedclnbcdaa
