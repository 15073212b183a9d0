/- What a node reaches: the closure that marks, and what it marks. -/
import Derived.Test.YteofbbakegcohaaEj
namespace Go.Proofs.Yteofbbakegcohaa
open Go.ChangeShapes Go.WideShapes Go.ChangeAt Go.RowKit
set_option linter.unusedVariables false
set_option linter.unusedSimpArgs false


def zb (n : Nat) (f : Nat → Bool) : Nat := zc (fun v => if f v = true then 1 else 0) n
/-- The marks behind a visit: k bounds the depth. -/
def rvis (A : Nat → List Nat) : Nat → Nat → (Nat → Bool) → (Nat → Bool)
  | 0, _, f => f
  | k + 1, v, f => (A v).foldl (fun g x => if g x = true then g else rvis A k x g) (upd f v true)
def rstp (A : Nat → List Nat) (k : Nat) (g : Nat → Bool) (x : Nat) : Nat → Bool := if g x = true then g else rvis A k x g
theorem zb_upd {n v : Nat} {f : Nat → Bool} (hv : v < n) (h : f v = false) : zb n (upd f v true) + 1 = zb n f := by
  unfold zb
  have k := zc_upd (fun v => if f v = true then 1 else 0) v 1 (by simp [h]) (by omega) n hv
  rw [← k]
  congr 2
  funext u
  unfold upd
  by_cases e : u = v
  · simp [e]
  · simp [e]
theorem zb_pos {n v : Nat} {f : Nat → Bool} (hv : v < n) (h : f v = false) : 0 < zb n f := zc_pos (by simp [h]) n hv
theorem zb_mono {n : Nat} {f g : Nat → Bool} (h : ∀ x, f x = true → g x = true) : zb n g ≤ zb n f := zc_mono (fun v hv => by
  by_cases e : f v = true
  · simp [h v e]
  · simp [e] at hv) n
/-- What a visit does: it marks v, what it marks is reached from v, and its neighbours are marked. -/
structure Rp (A : Nat → List Nat) (v : Nat) (f g : Nat → Bool) : Prop where
  m : ∀ x, f x = true → g x = true
  s : g v = true
  r : ∀ x, g x = true → f x = true ∨ Rch A v x
  c : ∀ x, g x = true → f x = false → ∀ y ∈ A x, g y = true
theorem rvis_ok {A : Nat → List Nat} {n : Nat} (hA : ∀ v, v < n → ∀ u ∈ A v, u < n) : ∀ (k v : Nat) (f : Nat → Bool), v < n → f v = false → zb n f ≤ k → Rp A v f (rvis A k v f)
  | 0, v, f, hv, h0, hk => by have := zb_pos hv h0; omega
  | k + 1, v, f, hv, h0, hk => by
    have hz := zb_upd hv h0
    have ih := rvis_ok hA k
    have fold : ∀ (xs pre : List Nat) (g : Nat → Bool), A v = pre ++ xs → (∀ x, upd f v true x = true → g x = true) → (∀ x, g x = true → f x = true ∨ Rch A v x) → (∀ x, g x = true → upd f v true x = false → ∀ y ∈ A x, g y = true) → (∀ x ∈ pre, g x = true) →
        Rp A v f (xs.foldl (rstp A k) g) := by
      intro xs
      induction xs with
      | nil =>
        intro pre g e h1 h2 h3 h4
        rw [List.append_nil] at e
        refine ⟨fun x hx => h1 x ?_, h1 v (upd_same _ _ _), h2, fun x hx hf y hy => ?_⟩
        · by_cases c : x = v
          · subst c; exact upd_same _ _ _
          · rw [upd_other c]; exact hx
        · by_cases c : x = v
          · subst c; exact h4 y (by rw [← e]; exact hy)
          · exact h3 x hx (by rw [upd_other c]; exact hf) y hy
      | cons a t iht =>
        intro pre g e h1 h2 h3 h4
        rw [List.foldl_cons]
        have ha : a ∈ A v := by rw [e]; simp
        have e' : A v = (pre ++ [a]) ++ t := by rw [e]; simp
        by_cases c : g a = true
        · have es : rstp A k g a = g := by unfold rstp; rw [if_pos c]
          rw [es]
          refine iht (pre ++ [a]) g e' h1 h2 h3 (fun x hx => ?_)
          rcases List.mem_append.1 hx with m | m
          · exact h4 x m
          · rw [List.mem_singleton.1 m]; exact c
        · have es : rstp A k g a = rvis A k a g := by unfold rstp; rw [if_neg c]
          have hzg : zb n g ≤ k := Nat.le_trans (zb_mono h1) (by omega)
          have P := ih a g (hA v hv a ha) (by simpa using c) hzg
          rw [es]
          refine iht (pre ++ [a]) _ e' (fun x hx => P.m x (h1 x hx)) (fun x hx => ?_) (fun x hx hf y hy => ?_) (fun x hx => ?_)
          · rcases P.r x hx with q | q
            · exact h2 x q
            · exact .inr (.step ha q)
          · by_cases d : g x = true
            · exact P.m y (h3 x d hf y hy)
            · exact P.c x hx (by simpa using d) y hy
          · rcases List.mem_append.1 hx with m | m
            · exact P.m x (h4 x m)
            · rw [List.mem_singleton.1 m]; exact P.s
    refine fold (A v) [] (upd f v true) rfl (fun x hx => hx) (fun x hx => ?_) (fun x hx hf => absurd hx (by rw [hf]; simp)) (fun x hx => by cases hx)
    by_cases c : x = v
    · subst c; exact .inr (.refl _)
    · rw [upd_other c] at hx; exact .inl hx
/-- What a node reaches, as marks. -/
def rmk (A : Nat → List Nat) (n v : Nat) : Nat → Bool := rvis A n v (fun _ => false)
theorem rmk_iff {A : Nat → List Nat} {n v : Nat} (hA : ∀ v, v < n → ∀ u ∈ A v, u < n) (hv : v < n) (x : Nat) : rmk A n v x = true ↔ Rch A v x := by
  have P := rvis_ok hA n v (fun _ => false) hv rfl (zc_le _ n)
  constructor
  · intro h
    rcases P.r x h with q | q
    · cases q
    · exact q
  · intro h
    exact h.closed (P := fun x => rmk A n v x = true) (fun x hx y hy => P.c x hx rfl y hy) P.s
set_option maxRecDepth 100000 in
set_option maxHeartbeats 8000000 in
theorem rvisit_any (n G S B F R : Nat) (A : Nat → List Nat) (wg w0 : World) (hG : Gm wg G n A) (hgR : wg.heap.size ≤ R) (hb0 : Below wg.heap.size wg w0) (hS : Has w0 S 65 #[.slice (some ⟨R, 0, none⟩) n n]) (hB : Has w0 B 66 #[.slice (some ⟨G, 0, none⟩) n n]) (hF : Has w0 F 97 #[.func (.func 74) #[] #[.pointer (some ⟨S, 0, none⟩), .pointer (some ⟨B, 0, none⟩), .pointer (some ⟨F, 0, none⟩)]]) (hSR : S ≠ R) (hBR : B ≠ R) (hFR : F ≠ R) :
    ∀ (k v : Nat) (f : Nat → Bool) (w : World), v < n → f v = false → zb n f ≤ k → At R w0 w → RowB w R n f →
    Calls Try.prog 74 #[.int .i64 v, .pointer (some ⟨S, 0, none⟩), .pointer (some ⟨B, 0, none⟩), .pointer (some ⟨F, 0, none⟩)] w fun e w' => e = .returned (.tuple #[]) ∧ At R w0 w' ∧ RowB w' R n (rvis A k v f)
  | 0, v, f, w, hv, h0, hk, _, _ => by have := zb_pos hv h0; omega
  | k + 1, v, f, w, hv, h0, hk, hA, hR => by
    have ih := rvisit_any n G S B F R A wg w0 hG hgR hb0 hS hB hF hSR hBR hFR k
    have hn := hG.sz
    have hz := zb_upd hv h0
    have q1 : (0 : Int) ≤ (v : Int) := by omega
    have q2 : (v : Int) < (n : Int) := by omega
    have c1 := (hS.at_ hA hSR).read 0
    have c2 := hR.read hv
    have f2 := hR.open_ v
    have A1 := hA.put v (.bool true)
    have R1 := hR.put v true
    have c3 := (hB.at_ A1 hBR).read 0
    obtain ⟨u, cu, ru⟩ := hG.rd v hv
    have bb : ∀ W, At R w0 W → Below wg.heap.size wg W := fun W h => hb0.trans (h.below hgR)
    have cu1 := cell_later (bb _ A1) cu
    have hAn := hG.lt v hv
    have hl := hG.len v
    obtain ⟨qa, ca, rfl, ra⟩ := ru
    have HRA := Lib.hid ra
    have HR1 := Lib.hid R1
    have HA1 := Lib.hid A1
    have HP := Lib.hid (rvis_ok hG.lt k)
    clear ra hA hR A1 R1
    go_enter Try.func74, Try.ntmps74
    go_wp2
    generalize w.setCell ⟨R, v, none⟩ (.bool true) = w1 at *
    go_loopw [15] (fun v15 wr => ∃ (j : Nat) (g : Nat → Bool), v15 = .int .i64 j ∧ j ≤ (A v).length ∧ Hid (((A v).take j).foldl (rstp A k) (upd f v true) = g) ∧ Hid (zb n g ≤ k) ∧ Hid (At R w0 wr) ∧ Hid (RowB wr R n g)) (fun x _ => (A v).length - (intOf x).toNat)
    case atStart => exact ⟨0, _, rfl, Nat.zero_le _, Lib.hid rfl, Lib.hid (show zb n (upd f v true) ≤ k by omega), HA1, HR1⟩
    case round =>
      obtain ⟨j, g, rfl, hj, HF, HZ, HAw, HRw⟩ := hrel
      by_cases hlt : j < (A v).length
      · have g1 : decide ((j : Int) < ((A v).length : Int)) = true := by simp [hlt]
        have W2 : IntKind.i64.wrap ((j : Int) + 1) = ((j + 1 : Nat) : Int) := by rw [IntWalk.i64_in _ (by omega)]; omega
        have q3 : (0 : Int) ≤ (j : Int) := by omega
        have q4 : (j : Int) < ((A v).length : Int) := by omega
        obtain ⟨ga, rfl, cj⟩ := HRA.out j hlt
        have cj := cell_later (bb _ HAw.out) cj
        have hxn := hAn _ (List.getElem_mem hlt)
        have hft := foldl_take (rstp A k) (upd f v true) (A v) hlt
        rw [HF.out] at hft
        obtain ⟨x, hxx⟩ : ∃ x, x = (A v)[j] := ⟨_, rfl⟩
        rw [← hxx] at cj hxn hft
        clear hxx
        have cS := (hS.at_ HAw.out hSR).read 0
        have cF := (hF.at_ HAw.out hFR).read 0
        have cx := HRw.out.read hxn
        have q5 : (0 : Int) ≤ (x : Int) := by omega
        have q6 : (x : Int) < (n : Int) := by omega
        cases hx0 : g x
        · rw [hx0] at cx
          have e : rstp A k g x = rvis A k x g := by unfold rstp; rw [if_neg (by rw [hx0]; simp)]
          rw [e] at hft
          have HST := Lib.hid hft
          have hC := ih x g wr hxn hx0 HZ.out HAw.out HRw.out
          have HZ2 : Hid (zb n (rvis A k x g) ≤ k) := Lib.hid (Nat.le_trans (zb_mono (HP.out x g hxn hx0 HZ.out).m) HZ.out)
          clear hft e hx0
          go_wp2_with (go_at_call 74; (with_reducible refine hC.mono ?_); rintro e w6 ⟨rfl, hA6, hR6⟩)
          exact ⟨⟨j + 1, _, rfl, hlt, HST, HZ2, Lib.hid hA6, Lib.hid hR6⟩, by simp [intOf]; omega⟩
        · rw [hx0] at cx
          have e : rstp A k g x = g := by unfold rstp; rw [if_pos hx0]
          rw [e] at hft
          have HST := Lib.hid hft
          clear hft e hx0
          go_wp2
          exact ⟨⟨j + 1, _, rfl, hlt, HST, HZ, HAw, HRw⟩, by simp [intOf]; omega⟩
      · have g1 : decide ((j : Int) < ((A v).length : Int)) = false := by simp; omega
        have hft : (A v).foldl (rstp A k) (upd f v true) = g := by
          have := HF.out
          rwa [List.take_of_length_le (by omega)] at this
        have HE : Hid (rvis A (k + 1) v f = g) := Lib.hid hft
        clear hft
        go_wp2
        go_end0
        exact ⟨rfl, HAw.out, by rw [HE.out]; exact HRw.out⟩
end Go.Proofs.Yteofbbakegcohaa
