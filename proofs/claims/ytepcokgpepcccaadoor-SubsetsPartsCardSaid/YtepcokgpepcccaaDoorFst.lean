/- The first subset that a closure tells of. -/
import Derived.Test.YtepcokgpepcccaaDoorSm
namespace Go.Proofs.YtepcokgpepcccaaDoor
open Go.ChangeShapes Go.WideShapes Go.ChangeAt Go.RowKit
set_option linter.unusedVariables false
set_option linter.unusedSimpArgs false

theorem findc_any (s N cap bs bz : Nat) (a : Addr) (x sum : Int) (w : World) (hs : s < N) (hN : N ≤ 1024) (h1 : w.cell? ⟨bs, 0, none⟩ = some (.slice (some a) N cap)) (h2 : w.cell? ⟨bz, 0, none⟩ = some (.int .i64 sum)) (h3 : w.cell? (a.add s) = some (.int .i64 x)) :
    Calls Tryd.prog 52 #[.int .u64 s, .pointer (some ⟨bs, 0, none⟩), .pointer (some ⟨bz, 0, none⟩)] w fun e w' => e = .returned (.bool (x == sum)) ∧ ∃ n, w' = w.drewN n := by
  have q1 : (0 : Int) ≤ (s : Int) := by omega
  have q2 : (s : Int) < (N : Int) := by omega
  go_enter Tryd.func52, Tryd.ntmps52
  go_wp2_with fail
  go_quiet (fail)
  go_wp2
  go_ret
  exact ⟨rfl, _, rfl⟩
theorem zeroc_any (s N cap bs : Nat) (a : Addr) (x : Int) (w : World) (hs : s < N) (hN : N ≤ 1024) (h1 : w.cell? ⟨bs, 0, none⟩ = some (.slice (some a) N cap)) (h3 : w.cell? (a.add s) = some (.int .i64 x)) :
    Calls Tryd.prog 53 #[.int .u64 s, .pointer (some ⟨bs, 0, none⟩)] w fun e w' => e = .returned (.bool (s != 0 && x == 0)) ∧ ∃ n, w' = w.drewN n := by
  have q1 : (0 : Int) ≤ (s : Int) := by omega
  have q2 : (s : Int) < (N : Int) := by omega
  go_enter Tryd.func53, Tryd.ntmps53
  by_cases h0 : s = 0
  · subst h0
    go_wp2
    go_ret
    exact ⟨rfl, 0, rfl⟩
  · have g : ((s : Int) != 0) = true := by simp; omega
    have e : (s != 0) = true := by simp [h0]
    rw [e]
    go_wp2
    go_ret
    exact ⟨rfl, 0, rfl⟩
/-- The first of the sets below n that has p. -/
def fstep (p : Nat → Bool) (b : Option Nat) (s : Nat) : Option Nat :=
  match p s, b with
  | false, _ => b
  | true, none => some s
  | true, some t => if bef s t then some s else some t
def fst (p : Nat → Bool) : Nat → Option Nat
  | 0 => none
  | n + 1 => fstep p (fst p n) n
theorem fst_lt (p : Nat → Bool) : ∀ n b, fst p n = some b → b < n
  | 0, b, h => by simp [fst] at h
  | n + 1, b, h => by
    have ih := fst_lt p n
    rw [fst] at h
    unfold fstep at h
    split at h
    · have := ih b h; omega
    · cases h; omega
    · rename_i t _ ht
      have := ih t ht
      split at h <;> (cases h; omega)
/-- What first answers. -/
def fpost (B : Nat) (w : World) (o : Option Nat) (e : Ending) (w' : World) : Prop :=
  Below B w w' ∧ match o with
  | none => e = .returned (.tuple #[.slice none 0 0, .int .i64 12])
  | some b => ∃ v, e = .returned (.tuple #[v, .int .i64 0]) ∧ OwnZ B w' v (toZ (ixs 10 b))
theorem fpost_none {B : Nat} {w w' : World} {o : Option Nat} {e : Ending} (h : o = none) (hb : Below B w w') (he : e = .returned (.tuple #[.slice none 0 0, .int .i64 12])) : fpost B w o e w' := by
  subst h; exact ⟨hb, he⟩
theorem fpost_some {B : Nat} {w w' : World} {o : Option Nat} {e : Ending} {b : Nat} {v : Value} (h : o = some b) (hb : Below B w w') (he : e = .returned (.tuple #[v, .int .i64 0])) (ho : OwnZ B w' v (toZ (ixs 10 b))) : fpost B w o e w' := by
  subst h; exact ⟨hb, v, he, ho⟩
set_option maxRecDepth 100000 in
set_option maxHeartbeats 4000000 in
theorem first_find (N cap bs bz : Nat) (a : Addr) (S : List Int) (sum : Int) (w : World) (hN : N ≤ 1024) (hS : S.length = N) (hT : Tab w) (h1 : w.cell? ⟨bs, 0, none⟩ = some (.slice (some a) N cap)) (h2 : w.cell? ⟨bz, 0, none⟩ = some (.int .i64 sum))
    (h3 : ∀ j (h : j < S.length), w.cell? (a.add j) = some (.int .i64 S[j])) :
    Calls Tryd.prog 46 #[.slice (some a) N cap, .func (.func 52) #[] #[.pointer (some ⟨bs, 0, none⟩), .pointer (some ⟨bz, 0, none⟩)]] w (fpost w.heap.size w (fst (fun s => S.getD s 0 == sum) N)) := by
  have hC := fun s x nd hs hx => findc_any s N cap bs bz a x sum (w.drewN nd) hs hN h1 h2 hx
  obtain ⟨p, ep⟩ : ∃ p : Nat → Bool, p = fun s => S.getD s 0 == sum := ⟨_, rfl⟩
  rw [← ep]
  have EP := Lib.hid ep
  have H3 := Lib.hid h3
  have HS := Lib.hid hS
  clear ep h1 h2 h3 hS
  go_enter Tryd.func46, Tryd.ntmps46
  go_wp2
  go_loopw [6, 7, 12] (fun v6 v7 v12 wr => ∃ k b : Nat, ∃ f : Bool, v12 = .int .u64 k ∧ k ≤ N ∧ v6 = .int .u64 b ∧ b < 1024 ∧ v7 = .bool f ∧ Hid (fst p k = if f then some b else none) ∧ ∃ n, wr = w.drewN n) (fun _ _ v _ => N - (intOf v).toNat)
  case atStart => exact ⟨0, 0, false, rfl, Nat.zero_le _, rfl, by omega, rfl, Lib.hid rfl, 0, rfl⟩
  case round =>
    obtain ⟨k, b, f, rfl, hk, rfl, hb, rfl, hF, nd, rfl⟩ := hrel
    by_cases hlt : k < N
    · have g : decide ((k : Int) < (N : Int)) = true := by simp [hlt]
      have W1 : IntKind.u64.wrap ((k : Int) + 1) = ((k + 1 : Nat) : Int) := by rw [IntKind.wrap_u64]; omega
      have hkS : k < S.length := by rw [HS.out]; exact hlt
      have hc := hC k S[k] nd hlt (H3.out k hkS)
      have ex : (S[k] == sum) = p k := by rw [EP.out]; simp [List.getD, hkS]
      rw [ex] at hc
      have hbf := bef_any k b (by omega) hb
      have hst : Hid (fst p (k + 1) = fstep p (fst p k) k) := Lib.hid rfl
      clear ex hkS
      cases hp : p k
      · rw [hp] at hc
        have E : Hid (fst p (k + 1) = if f then some b else none) := Lib.hid (by rw [hst.out, hF.out]; unfold fstep; rw [hp])
        clear hp
        go_wp2_with (go_at_call 52; (with_reducible refine hc.mono ?_); rintro e1 w1 ⟨rfl, n1, rfl⟩)
        exact ⟨⟨k + 1, b, f, rfl, hlt, rfl, hb, rfl, E, _, rfl⟩, by simp [intOf]; omega⟩
      · rw [hp] at hc
        cases f
        · have E : Hid (fst p (k + 1) = some k) := Lib.hid (by rw [hst.out, hF.out]; unfold fstep; rw [hp]; rfl)
          clear hp
          go_wp2_with (go_at_call 52; (with_reducible refine hc.mono ?_); rintro e1 w1 ⟨rfl, n1, rfl⟩)
          exact ⟨⟨k + 1, k, true, rfl, hlt, rfl, by omega, rfl, E, _, rfl⟩, by simp [intOf]; omega⟩
        · cases hbb : bef k b
          · rw [hbb] at hbf
            have E : Hid (fst p (k + 1) = some b) := Lib.hid (by rw [hst.out, hF.out]; unfold fstep; rw [hp]; simp [hbb])
            clear hp hbb
            go_wp2_with (first | (go_at_call 52; (with_reducible refine hc.mono ?_); rintro e1 w1 ⟨rfl, n1, rfl⟩) | (go_at_call 69; (with_reducible refine (hbf _).mono ?_); rintro e1 w1 ⟨rfl, rfl⟩))
            exact ⟨⟨k + 1, b, true, rfl, hlt, rfl, hb, rfl, E, _, rfl⟩, by simp [intOf]; omega⟩
          · rw [hbb] at hbf
            have E : Hid (fst p (k + 1) = some k) := Lib.hid (by rw [hst.out, hF.out]; unfold fstep; rw [hp]; simp [hbb])
            clear hp hbb
            go_wp2_with (first | (go_at_call 52; (with_reducible refine hc.mono ?_); rintro e1 w1 ⟨rfl, n1, rfl⟩) | (go_at_call 69; (with_reducible refine (hbf _).mono ?_); rintro e1 w1 ⟨rfl, rfl⟩))
            exact ⟨⟨k + 1, k, true, rfl, hlt, rfl, by omega, rfl, E, _, rfl⟩, by simp [intOf]; omega⟩
    · have g : decide ((k : Int) < (N : Int)) = false := by simp; omega
      have e : k = N := by omega
      have HE := Lib.hid e
      have hB := below_drewN (Below.refl w.heap.size w) nd
      have hT2 := hT.on hB
      clear e
      cases f
      · go_wp2
        exact bodyPost_ret (v := .tuple #[.slice none 0 0, .int .i64 12]) (by simp [results, Tryd.results46, go_sem]) rfl (fpost_none (by rw [← HE.out, hF.out]; rfl) hB rfl)
      · have hi := indices_any b (w.drewN nd) hb hT2
        have es : (w.drewN nd).heap.size = w.heap.size := rfl
        go_wp2_with (go_at_call 57; (with_reducible refine hi.mono ?_); rintro e1 w1 ⟨v, rfl, ho, hb1⟩)
        exact bodyPost_ret (v := .tuple #[v, .int .i64 0]) (by simp [results, Tryd.results46, go_sem]) rfl (fpost_some (by rw [← HE.out, hF.out]; rfl) (belows hB hb1) rfl ho)
set_option maxRecDepth 100000 in
set_option maxHeartbeats 4000000 in
theorem first_zero (N cap bs : Nat) (a : Addr) (S : List Int) (w : World) (hN : N ≤ 1024) (hS : S.length = N) (hT : Tab w) (h1 : w.cell? ⟨bs, 0, none⟩ = some (.slice (some a) N cap))
    (h3 : ∀ j (h : j < S.length), w.cell? (a.add j) = some (.int .i64 S[j])) :
    Calls Tryd.prog 46 #[.slice (some a) N cap, .func (.func 53) #[] #[.pointer (some ⟨bs, 0, none⟩)]] w (fpost w.heap.size w (fst (fun s => s != 0 && S.getD s 0 == 0) N)) := by
  have hC := fun s x nd hs hx => zeroc_any s N cap bs a x (w.drewN nd) hs hN h1 hx
  obtain ⟨p, ep⟩ : ∃ p : Nat → Bool, p = fun s => s != 0 && S.getD s 0 == 0 := ⟨_, rfl⟩
  rw [← ep]
  have EP := Lib.hid ep
  have H3 := Lib.hid h3
  have HS := Lib.hid hS
  clear ep h1 h3 hS
  go_enter Tryd.func46, Tryd.ntmps46
  go_wp2
  go_loopw [6, 7, 12] (fun v6 v7 v12 wr => ∃ k b : Nat, ∃ f : Bool, v12 = .int .u64 k ∧ k ≤ N ∧ v6 = .int .u64 b ∧ b < 1024 ∧ v7 = .bool f ∧ Hid (fst p k = if f then some b else none) ∧ ∃ n, wr = w.drewN n) (fun _ _ v _ => N - (intOf v).toNat)
  case atStart => exact ⟨0, 0, false, rfl, Nat.zero_le _, rfl, by omega, rfl, Lib.hid rfl, 0, rfl⟩
  case round =>
    obtain ⟨k, b, f, rfl, hk, rfl, hb, rfl, hF, nd, rfl⟩ := hrel
    by_cases hlt : k < N
    · have g : decide ((k : Int) < (N : Int)) = true := by simp [hlt]
      have W1 : IntKind.u64.wrap ((k : Int) + 1) = ((k + 1 : Nat) : Int) := by rw [IntKind.wrap_u64]; omega
      have hkS : k < S.length := by rw [HS.out]; exact hlt
      have hc := hC k S[k] nd hlt (H3.out k hkS)
      have ex : (k != 0 && S[k] == 0) = p k := by rw [EP.out]; simp [List.getD, hkS]
      rw [ex] at hc
      have hbf := bef_any k b (by omega) hb
      have hst : Hid (fst p (k + 1) = fstep p (fst p k) k) := Lib.hid rfl
      clear ex hkS
      cases hp : p k
      · rw [hp] at hc
        have E : Hid (fst p (k + 1) = if f then some b else none) := Lib.hid (by rw [hst.out, hF.out]; unfold fstep; rw [hp])
        clear hp
        go_wp2_with (go_at_call 53; (with_reducible refine hc.mono ?_); rintro e1 w1 ⟨rfl, n1, rfl⟩)
        exact ⟨⟨k + 1, b, f, rfl, hlt, rfl, hb, rfl, E, _, rfl⟩, by simp [intOf]; omega⟩
      · rw [hp] at hc
        cases f
        · have E : Hid (fst p (k + 1) = some k) := Lib.hid (by rw [hst.out, hF.out]; unfold fstep; rw [hp]; rfl)
          clear hp
          go_wp2_with (go_at_call 53; (with_reducible refine hc.mono ?_); rintro e1 w1 ⟨rfl, n1, rfl⟩)
          exact ⟨⟨k + 1, k, true, rfl, hlt, rfl, by omega, rfl, E, _, rfl⟩, by simp [intOf]; omega⟩
        · cases hbb : bef k b
          · rw [hbb] at hbf
            have E : Hid (fst p (k + 1) = some b) := Lib.hid (by rw [hst.out, hF.out]; unfold fstep; rw [hp]; simp [hbb])
            clear hp hbb
            go_wp2_with (first | (go_at_call 53; (with_reducible refine hc.mono ?_); rintro e1 w1 ⟨rfl, n1, rfl⟩) | (go_at_call 69; (with_reducible refine (hbf _).mono ?_); rintro e1 w1 ⟨rfl, rfl⟩))
            exact ⟨⟨k + 1, b, true, rfl, hlt, rfl, hb, rfl, E, _, rfl⟩, by simp [intOf]; omega⟩
          · rw [hbb] at hbf
            have E : Hid (fst p (k + 1) = some k) := Lib.hid (by rw [hst.out, hF.out]; unfold fstep; rw [hp]; simp [hbb])
            clear hp hbb
            go_wp2_with (first | (go_at_call 53; (with_reducible refine hc.mono ?_); rintro e1 w1 ⟨rfl, n1, rfl⟩) | (go_at_call 69; (with_reducible refine (hbf _).mono ?_); rintro e1 w1 ⟨rfl, rfl⟩))
            exact ⟨⟨k + 1, k, true, rfl, hlt, rfl, by omega, rfl, E, _, rfl⟩, by simp [intOf]; omega⟩
    · have g : decide ((k : Int) < (N : Int)) = false := by simp; omega
      have e : k = N := by omega
      have HE := Lib.hid e
      have hB := below_drewN (Below.refl w.heap.size w) nd
      have hT2 := hT.on hB
      clear e
      cases f
      · go_wp2
        exact bodyPost_ret (v := .tuple #[.slice none 0 0, .int .i64 12]) (by simp [results, Tryd.results46, go_sem]) rfl (fpost_none (by rw [← HE.out, hF.out]; rfl) hB rfl)
      · have hi := indices_any b (w.drewN nd) hb hT2
        have es : (w.drewN nd).heap.size = w.heap.size := rfl
        go_wp2_with (go_at_call 57; (with_reducible refine hi.mono ?_); rintro e1 w1 ⟨v, rfl, ho, hb1⟩)
        exact bodyPost_ret (v := .tuple #[v, .int .i64 0]) (by simp [results, Tryd.results46, go_sem]) rfl (fpost_some (by rw [← HE.out, hF.out]; rfl) (belows hB hb1) rfl ho)
end Go.Proofs.YtepcokgpepcccaaDoor
