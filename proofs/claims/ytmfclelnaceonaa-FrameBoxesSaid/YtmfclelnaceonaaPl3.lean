/- A region whose order is drawn, with variables that are laid at any time in between (free allocs): gone through by a plan of all other operations; behind it the variables lie in blocks of their own, wherever. The plan speaks of every world that meets S, and S abides whatever is laid anew. -/
import Derived.Test.YtmfclelnaceonaaPl
import Derived.Test.YtmfclelnaceonaaEn
namespace Go.Proofs.Ytmfclelnaceonaa
open Go.ChangeShapes Go.WideShapes Go.ChangeAt Go.RowKit
set_option linter.unusedVariables false
set_option linter.unusedSimpArgs false

section
variable {P : Program} {ops : Array Oper} {Q : Exit → Act → World → Prop} {md : Region.Mode} {S : World → Prop} {n : Nat}

/-- The state with the variables that are laid so far. -/
def putA (ops : Array Oper) (G : Nat → Option Nat) : List Nat → Act → Act
  | [], a => a
  | j :: A, a => match G j, ops[j]? with
    | some g, some o => (putA ops G A a).put o.dst (.pointer (some ⟨g, 0, none⟩))
    | _, _ => putA ops G A a
/-- The blocks of the variables that are laid so far. -/
def LaysA (zo : Nat → TypeId × Array Value) (B : Nat) (A : List Nat) (G : Nat → Option Nat) (w : World) : Prop :=
  (∀ j ∈ A, ∀ g, G j = some g → B ≤ g ∧ Has w g (zo j).1 (zo j).2) ∧ ∀ i ∈ A, ∀ j ∈ A, i ≠ j → ∀ g h, G i = some g → G j = some h → g ≠ h

theorem putA_look {G : Nat → Option Nat} {o : Oper} (hs : ∀ cs b, o.op ≠ .select cs b) : ∀ {A : List Nat} {a : Act}, (∀ j ∈ A, ∀ x, ops[j]? = some x → x.apart ops o = true) →
    execOp (putA ops G A a).eval o = execOp a.eval o ∧ Region.wanted o (yielded ops (putA ops G A a).tmps) = Region.wanted o (yielded ops a.tmps)
  | [], a, _ => ⟨rfl, rfl⟩
  | j :: A, a, h => by
    have ih := putA_look (G := G) hs (A := A) (a := a) fun k hk => h k (List.mem_cons_of_mem _ hk)
    unfold putA
    split
    · rename_i g x hg hx
      have h1 := (Oper.apart_spec (h j (List.mem_cons_self ..) x hx)).1
      exact ⟨(execOp_put o hs _ _ _ h1).trans ih.1, (wanted_put o _ _ _ h1).trans ih.2⟩
    · exact ih
theorem putA_put {G : Nat → Option Nat} {y : Option Tmp} {v : Value} : ∀ {A : List Nat} {a : Act}, (∀ j ∈ A, ∀ x, ops[j]? = some x → ∀ d, x.dst = some d → y ≠ some d) →
    putA ops G A (a.put y v) = (putA ops G A a).put y v
  | [], a, _ => rfl
  | j :: A, a, h => by
    have ih := putA_put (G := G) (y := y) (v := v) (A := A) (a := a) fun k hk => h k (List.mem_cons_of_mem _ hk)
    unfold putA
    split
    · rename_i g x hg hx
      rw [ih]
      exact (Act.put_comm _ _ _ (h j (List.mem_cons_self ..) x hx)).symm
    · exact ih
theorem putA_defers {G : Nat → Option Nat} (d : Deferred) : ∀ {A : List Nat} {a : Act}, putA ops G A { a with defers := d :: a.defers } = { putA ops G A a with defers := d :: (putA ops G A a).defers }
  | [], a => rfl
  | j :: A, a => by
    have ih := putA_defers (G := G) d (A := A) (a := a)
    unfold putA
    split
    · rw [ih]; exact (Act.put_defers _ _ _ d).symm
    · exact ih
theorem putA_cong {G G' : Nat → Option Nat} : ∀ {A : List Nat} {a : Act}, (∀ j ∈ A, G j = G' j) → putA ops G A a = putA ops G' A a
  | [], a, _ => rfl
  | j :: A, a, h => by
    have ih := putA_cong (A := A) (a := a) fun k hk => h k (List.mem_cons_of_mem _ hk)
    unfold putA
    rw [h j (List.mem_cons_self ..), ih]
theorem putA_more {G : Nat → Option Nat} {j g : Nat} {x : Oper} (hx : ops[j]? = some x) : ∀ {A : List Nat} {a : Act}, j ∈ A → A.Nodup → (∀ i ∈ A, i ≠ j → ∀ y, ops[i]? = some y → ∀ d, y.dst = some d → x.dst ≠ some d) → G j = none →
    putA ops (upd G j (some g)) A a = (putA ops G A a).put x.dst (.pointer (some ⟨g, 0, none⟩))
  | [], a, hj, _, _, _ => by cases hj
  | i :: A, a, hj, hn, h, hG => by
    obtain ⟨hi, hn'⟩ := List.nodup_cons.1 hn
    by_cases hij : i = j
    · subst hij
      have e : putA ops (upd G i (some g)) A a = putA ops G A a := putA_cong fun k hk => upd_other (fun e => hi (e ▸ hk))
      rw [putA, upd_same, hx, putA, hG]
      simp only [e]
    · have hjA : j ∈ A := by
        rcases List.mem_cons.1 hj with e | e
        · exact absurd e.symm hij
        · exact e
      have ih := putA_more (g := g) hx (A := A) (a := a) hjA hn' (fun k hk => h k (List.mem_cons_of_mem _ hk)) hG
      rw [putA, upd_other hij, putA]
      split
      · rename_i g' y hg' hy
        rw [ih]
        exact Act.put_comm _ _ _ (fun d hd e => h i (List.mem_cons_self ..) hij y hy d e hd)
      · exact ih
theorem LaysA.on {zo : Nat → TypeId × Array Value} {B : Nat} {A : List Nat} {G : Nat → Option Nat} {w w' : World} (h : LaysA zo B A G w) (hb : Below w.heap.size w w') : LaysA zo B A G w' :=
  ⟨fun j hj g hg => ⟨(h.1 j hj g hg).1, (h.1 j hj g hg).2.on hb⟩, h.2⟩
theorem LaysA.more {zo : Nat → TypeId × Array Value} {B : Nat} {A : List Nat} {G : Nat → Option Nat} {w : World} (h : LaysA zo B A G w) {j : Nat} (hB : B ≤ w.heap.size) : LaysA zo B A (upd G j (some w.heap.size)) (w.alloc (.cells (zo j).2 (zo j).1)) := by
  refine ⟨fun i hi g hg => ?_, fun i hi k hk hik g g' hg hg' => ?_⟩
  · by_cases e : i = j
    · subst e
      rw [upd_same] at hg; cases hg
      exact ⟨hB, Has.new_ _ _ _⟩
    · rw [upd_other e] at hg
      exact ⟨(h.1 i hi g hg).1, (h.1 i hi g hg).2.on (al1 _ _)⟩
  · by_cases e : i = j
    · subst e
      rw [upd_same] at hg; cases hg
      rw [upd_other (Ne.symm hik)] at hg'
      exact Nat.ne_of_gt (h.1 k hk g' hg').2.size_
    · rw [upd_other e] at hg
      by_cases e' : k = j
      · subst e'
        rw [upd_same] at hg'; cases hg'
        exact Nat.ne_of_lt (h.1 i hi g hg).2.size_
      · rw [upd_other e'] at hg'
        exact h.2 i hi k hk hik g g' hg hg'

/-- What is to be shown of a plan: F is what is to be shown at its end. -/
def wpFree (P : Program) (ops : Array Oper) (Q : Exit → Act → World → Prop) (S : World → Prop) (F : Act → Prop) : List (Oper × Bool) → Act → Prop
  | [], a => F a
  | (o, true) :: p, a => ∃ v, YieldsIf P ops S o v a ∧ wpFree P ops Q S F p (a.put o.dst v)
  | (o, false) :: p, a => ∀ w, S w → if Region.wanted o (yielded ops a.tmps) = true then Oper.wp P o a w (fun a' w' => Below w.heap.size w w' ∧ wpFree P ops Q S F p a') Q else wpFree P ops Q S F p (a.put o.dst undef)

def planF (md : Region.Mode) (ops : Array Oper) (n : Nat) : Nat → List (Nat × Bool) → List Nat → Array Bool → Bool
  | 0, p, rem, listed => p.isEmpty && rem.isEmpty && Region.seqB md ops (ops.size - n) n listed
  | f + 1, [], rem, listed => !rem.isEmpty && !(Region.ready md ops listed).isEmpty && (Region.ready md ops listed).all (fun j => rem.contains j) && rem.all (fun j => decide (j < n) && planF md ops n f [] (rem.erase j) (listed.setIfInBounds j true))
  | f + 1, (i, true) :: p, rem, listed => decide (i < n) && (Region.ready md ops listed).contains i && Region.free md ops listed i && planF md ops n f p rem (listed.setIfInBounds i true)
  | f + 1, (i, false) :: p, rem, listed => decide (i < n) && (Region.ready md ops listed).contains i && (Region.ready md ops listed).all (fun j => j == i || rem.contains j) && planF md ops n f p rem (listed.setIfInBounds i true)
      && rem.all (fun j => decide (j < n) && planF md ops n f ((i, false) :: p) (rem.erase j) (listed.setIfInBounds j true))

/-- Each variable is laid, and by nothing else looked at before its end. -/
def apartB (ops : Array Oper) (n : Nat) (A : List Nat) : Bool :=
  A.all fun j => (List.range n).all fun i => i == j || match ops[j]?, ops[i]? with
    | some x, some y => x.apart ops y
    | _, _ => false
theorem apartB_spec {A : List Nat} (h : apartB ops n A = true) {j i : Nat} (hj : j ∈ A) (hi : i < n) (hne : i ≠ j) {x y : Oper} (hx : ops[j]? = some x) (hy : ops[i]? = some y) : x.apart ops y = true := by
  have h1 := List.all_eq_true.1 (List.all_eq_true.1 h j hj) i (List.mem_range.2 hi)
  simp only [hx, hy, Bool.or_eq_true, beq_iff_eq] at h1
  exact h1.resolve_left hne

theorem upon_putA {G : Nat → Option Nat} {A : List Nat} {o : Oper} {a : Act} {K K' : Act → World → Prop} (hd : ∀ j ∈ A, ∀ x, ops[j]? = some x → ∀ d, x.dst = some d → o.dst ≠ some d)
    (hQ : ∀ c (a : Act) w, Q (.panic c) a w → Q (.panic c) (putA ops G A a) w) (hK : ∀ a' w', K a' w' → K' (putA ops G A a') w') {r : Result Next} (h : o.upon P a K Q r) : o.upon P (putA ops G A a) K' Q r := by
  cases r with
  | ok nx w' =>
    cases nx <;> simp only [Oper.upon] at h ⊢ <;>
      first
        | (rw [← putA_defers, ← putA_put hd]; exact hK _ _ h)
        | (rw [← putA_put hd]; exact hK _ _ h)
        | exact Calls.mono h (fun e w'' he => by cases e <;> first | (simp only at he ⊢; rw [← putA_put hd]; exact hK _ _ he) | exact hQ _ _ _ he | exact he)
        | exact Rows.mono h (fun _ _ he => by rw [← putA_put hd]; exact hK _ _ he)
        | exact h
  | halt x w' => cases x <;> simp only [Oper.upon] at h ⊢ <;> first | exact hQ _ _ _ h | exact h

theorem wpAnyT_free {l : List Oper} {R : List Oper} {A : List Nat} {zo : Nat → TypeId × Array Value} {B : Nat} (hsel : Region.noSelect l.toArray = true)
    (hQ : ∀ c (a : Act) d v w, Q (.panic c) (a.put d v) w ↔ Q (.panic c) a w)
    (hs : Region.sinkB md l.toArray n = true) (hc : Region.chainB md l.toArray n = true) (hn : n < l.length) (hR : R = l.drop n)
    (hap : apartB l.toArray n A = true) (hnd : A.Nodup) (hAn : ∀ j ∈ A, j < n)
    (hA : ∀ j ∈ A, ∀ o, l[j]? = some o → (∀ ys, Region.wanted o ys = true) ∧ ∀ (a : Act) (w : World), (execOp a.eval o).run P w = .ok (.value (.pointer (some ⟨w.heap.size, 0, none⟩))) (w.alloc (.cells (zo j).2 (zo j).1)))
    (hmono : ∀ W W', S W → Below W.heap.size W W' → S W') (hSB : ∀ W, S W → B ≤ W.heap.size) :
    ∀ (f : Nat) (p : List (Nat × Bool)) (rem : List Nat) (listed : Array Bool) (G : Nat → Option Nat) (a : Act) (w : World), HeadInv md l.toArray n listed → planF md l.toArray n f p rem listed = true →
      (∀ j ∈ rem, j ∈ A) → rem.Nodup → (∀ j ∈ A, G j = none ↔ j ∈ rem) → (∀ x ∈ p, x.1 ∉ A) → S w → LaysA zo B A G w →
      wpFree P l.toArray Q S (fun a' => ∀ (G : Nat → Option Nat) (W : World), (∀ j ∈ A, G j ≠ none) → S W → LaysA zo B A G W → wpList P l.toArray Q R (putA l.toArray G A a') W) (p.filterMap fun x => (l[x.1]?).map fun o => (o, x.2)) a →
      wpAnyT P md l.toArray Q S n (f + R.length) listed (putA l.toArray G A a) w := by
  have hQA : ∀ (G : Nat → Option Nat) (A : List Nat) c (a : Act) w, Q (.panic c) a w → Q (.panic c) (putA l.toArray G A a) w := by
    intro G A c a w h
    induction A with
    | nil => exact h
    | cons j A ih =>
      unfold putA
      split
      · exact (hQ _ _ _ _ _).2 ih
      · exact ih
  have hselo : ∀ (j : Nat) (o : Oper), l[j]? = some o → ∀ cs b, o.op ≠ .select cs b := fun j o h cs b => Region.noSelect_spec hsel j o cs b (by simpa using h)
  -- a variable is laid
  have lay : ∀ (j : Nat) (K : Act → World → Prop) (b : Act) (w : World), j ∈ A → K (b.put ((l.toArray[j]?).bind (·.dst)) (.pointer (some ⟨w.heap.size, 0, none⟩))) (w.alloc (.cells (zo j).2 (zo j).1)) → wpOp P l.toArray Q j K b w := by
    intro j K b w hj h
    have hjl : j < l.length := by have := hAn j hj; omega
    have h0 : l[j]? = some l[j] := List.getElem?_eq_getElem hjl
    have h0' : l.toArray[j]? = some l[j] := by simp [h0]
    obtain ⟨hw, hr⟩ := hA j hj _ h0
    unfold wpOp
    simp only [h0', hw, if_true]
    refine .inl ?_
    unfold Oper.wp
    rw [hr, Oper.upon_value]
    simpa [h0'] using h
  intro f
  induction f with
  | zero =>
    intro p rem listed G a w inv hB hrA hrn hG hpA hS hL h
    simp only [planF, Bool.and_eq_true, List.isEmpty_iff] at hB
    obtain ⟨⟨rfl, rfl⟩, hseq⟩ := hB
    simp only [List.filterMap_nil, wpFree] at h
    have hd : R.length = l.toArray.size - n := by rw [hR]; simp
    have := wpAnyT_of_seq (P := P) (Q := Q) (S := S) (n := n) (md := md) (ops := l.toArray) R n listed _ w (Nat.le_refl _) (fun j => by simp [hR, List.getElem?_drop]) (by rw [hd]; exact hseq) (h G w (fun j hj e => by have := (hG j hj).1 e; cases this) hS hL)
    simpa using this
  | succ f ih =>
    intro p rem listed G a w inv hB hrA hrn hG hpA hS hL h
    have put_eq : ∀ j ∈ A, G j = none → ∀ g, (putA l.toArray G A a).put ((l.toArray[j]?).bind (·.dst)) (.pointer (some ⟨g, 0, none⟩)) = putA l.toArray (upd G j (some g)) A a := by
      intro j hj hGj g
      have hjl : j < l.length := by have := hAn j hj; omega
      have h0' : l.toArray[j]? = some l[j] := by simp [List.getElem?_eq_getElem hjl]
      rw [putA_more h0' hj hnd (fun i hi hij y hy d hd => (Oper.apart_spec (apartB_spec hap hi (hAn j hj) (Ne.symm hij) hy h0')).2.1 d hd) hGj]
      simp [h0']
    have step : ∀ j ∈ rem, ∀ (p' : List (Nat × Bool)), (∀ x ∈ p', x.1 ∉ A) → j ∈ Region.ready md l.toArray listed → planF md l.toArray n f p' (rem.erase j) (listed.setIfInBounds j true) = true →
        wpFree P l.toArray Q S (fun a' => ∀ (G : Nat → Option Nat) (W : World), (∀ j ∈ A, G j ≠ none) → S W → LaysA zo B A G W → wpList P l.toArray Q R (putA l.toArray G A a') W) (p'.filterMap fun x => (l[x.1]?).map fun o => (o, x.2)) a →
        wpOp P l.toArray Q j (fun a' w' => (j < n → S w') ∧ wpAnyT P md l.toArray Q S n (f + R.length) (listed.setIfInBounds j true) a' w') (putA l.toArray G A a) w := by
      intro j hj p' hp' hr hB' h'
      have hjA := hrA j hj
      have hGj := (hG j hjA).2 hj
      refine lay j _ _ _ hjA ?_
      have hS' := hmono _ _ hS (al1 w (.cells (zo j).2 (zo j).1))
      rw [put_eq j hjA hGj]
      refine ⟨fun _ => hS', ih p' (rem.erase j) _ _ a _ (inv.set hr (hAn j hjA)) hB' (fun i hi => hrA i (List.mem_of_mem_erase hi)) (hrn.erase j) (fun i hi => ?_) hp' hS' (hL.more (hSB _ hS)) h'⟩
      by_cases e : i = j
      · subst e
        rw [upd_same]
        simp [hrn.mem_erase_iff]
      · rw [upd_other e, hG i hi, hrn.mem_erase_iff]
        exact ⟨fun h => ⟨e, h⟩, fun h => h.2⟩
    rw [show f + 1 + R.length = (f + R.length) + 1 by omega]
    match p, hB, h, hpA with
    | [], hB, h, hpA =>
      simp only [planF, Bool.and_eq_true, Bool.not_eq_true', List.all_eq_true] at hB
      obtain ⟨⟨⟨-, h1⟩, h2⟩, h3⟩ := hB
      refine ⟨fun e => (by rw [e] at h1; cases h1), fun j hj => ?_⟩
      have hjr : j ∈ rem := by simpa using h2 j hj
      have := h3 j hjr
      exact step j hjr [] (fun x hx => by cases hx) hj this.2 h
    | (i, true) :: p, hB, h, hpA =>
      simp only [planF, Bool.and_eq_true, decide_eq_true_eq] at hB
      obtain ⟨⟨⟨hin, hr⟩, hf⟩, hB'⟩ := hB
      have hr' : i ∈ Region.ready md l.toArray listed := by simpa using hr
      have hil : i < l.length := by omega
      have h0 : l[i]? = some l[i] := List.getElem?_eq_getElem hil
      have h0' : l.toArray[i]? = some l[i] := by simp [h0]
      have hiA : i ∉ A := hpA (i, true) (List.mem_cons_self ..)
      have hsp : ∀ j ∈ A, ∀ x, l.toArray[j]? = some x → x.apart l.toArray l[i] = true := fun j hj x hx => apartB_spec hap hj hin (fun e => hiA (e ▸ hj)) hx h0'
      simp only [List.filterMap_cons, h0, Option.map_some, wpFree] at h
      obtain ⟨v, hy, hK⟩ := h
      have hlook := putA_look (G := G) (a := a) (hselo i _ h0) hsp
      have hy' : YieldsIf P l.toArray S l[i] v (putA l.toArray G A a) := hy.of_same hlook.1 hlook.2
      refine wpAnyT_first h0' (Region.noSelect_spec hsel) (fun c a w hq => (hQ c a _ v w).1 hq) hs hc (by simpa using hn) hin _ listed _ w inv (Region.free_spec h0' hf) hr' hy' hS ?_
      rw [← putA_put (fun j hj x hx => (Oper.apart_spec (hsp j hj x hx)).2.1)]
      exact ih p rem _ G _ w (inv.set hr' hin) hB' hrA hrn hG (fun x hx => hpA x (List.mem_cons_of_mem _ hx)) hS hL hK
    | (i, false) :: p, hB, h, hpA =>
      simp only [planF, Bool.and_eq_true, decide_eq_true_eq, List.all_eq_true] at hB
      obtain ⟨⟨⟨⟨hin, hr⟩, hall⟩, hB'⟩, hrem⟩ := hB
      have hr' : i ∈ Region.ready md l.toArray listed := by simpa using hr
      have hil : i < l.length := by omega
      have h0 : l[i]? = some l[i] := List.getElem?_eq_getElem hil
      have h0' : l.toArray[i]? = some l[i] := by simp [h0]
      have hiA : i ∉ A := hpA (i, false) (List.mem_cons_self ..)
      have hsp : ∀ j ∈ A, ∀ x, l.toArray[j]? = some x → x.apart l.toArray l[i] = true := fun j hj x hx => apartB_spec hap hj hin (fun e => hiA (e ▸ hj)) hx h0'
      refine ⟨fun e => (by rw [e] at hr'; cases hr'), fun j hj => ?_⟩
      have hjc := hall j hj
      simp only [Bool.or_eq_true, beq_iff_eq] at hjc
      by_cases hji : j = i
      · subst hji
        simp only [List.filterMap_cons, h0, Option.map_some, wpFree] at h
        have hw := h w hS
        have hlook := putA_look (G := G) (a := a) (hselo j _ h0) hsp
        have hdst : ∀ k ∈ A, ∀ x, l.toArray[k]? = some x → ∀ d, x.dst = some d → l[j].dst ≠ some d := fun k hk x hx => (Oper.apart_spec (hsp k hk x hx)).2.1
        have hpA' : ∀ x ∈ p, x.1 ∉ A := fun x hx => hpA x (List.mem_cons_of_mem _ hx)
        unfold wpOp
        simp only [h0']
        rw [hlook.2]
        split at hw
        · rename_i hwt
          rw [if_pos hwt]
          refine .inl ?_
          unfold Oper.wp at hw ⊢
          rw [hlook.1]
          refine upon_putA hdst (hQA G A) (fun a' w' hk => ?_) hw
          exact ⟨fun _ => hmono _ _ hS hk.1, ih p rem _ G a' w' (inv.set hr' hin) hB' hrA hrn hG hpA' (hmono _ _ hS hk.1) (hL.on hk.1) hk.2⟩
        · rename_i hwt
          rw [if_neg hwt, ← putA_put hdst]
          exact ⟨fun _ => hS, ih p rem _ G _ w (inv.set hr' hin) hB' hrA hrn hG hpA' hS hL hw⟩
      · have hjr : j ∈ rem := by simpa using hjc.resolve_left hji
        exact step j hjr _ hpA hj (hrem j hjr).2 h

/-- The beginning. -/
theorem wp_region_free {id : Nat} {a : Act} {w : World} {l : List Oper} (n : Nat) (p : List (Nat × Bool)) (A : List Nat) (zo : Nat → TypeId × Array Value) (B : Nat) (S : World → Prop) (hm : P.follows .mixedOrders = true)
    (hB : (Region.noSelect l.toArray && Region.sinkB .any l.toArray n && Region.chainB .any l.toArray n && decide (n < l.length) && decide (p.length + A.length = n) && apartB l.toArray n A && decide A.Nodup && (A.all fun j => decide (j < n)) && (p.all fun x => !A.contains x.1) && planF .any l.toArray n n p A (Array.replicate l.toArray.size false)) = true)
    (hQ : ∀ c (a : Act) d v w, Q (.panic c) (a.put d v) w ↔ Q (.panic c) a w)
    (hA : ∀ j ∈ A, ∀ o, l[j]? = some o → (∀ ys, Region.wanted o ys = true) ∧ ∀ (a : Act) (w : World), (execOp a.eval o).run P w = .ok (.value (.pointer (some ⟨w.heap.size, 0, none⟩))) (w.alloc (.cells (zo j).2 (zo j).1)))
    (hmono : ∀ W W', S W → Below W.heap.size W W' → S W') (hSB : ∀ W, S W → B ≤ W.heap.size) (hS : S w.drew)
    (h : wpFree P l.toArray Q S (fun a' => ∀ (G : Nat → Option Nat) (W : World), (∀ j ∈ A, G j ≠ none) → S W → LaysA zo B A G W → wpList P l.toArray Q (l.drop n) (putA l.toArray G A a') W) (p.filterMap fun x => (l[x.1]?).map fun o => (o, x.2)) a) : (Code.region id l.toArray true).wp P Q a w := by
  simp only [Bool.and_eq_true, decide_eq_true_eq, List.all_eq_true, Bool.not_eq_true', List.contains_eq_mem, decide_eq_false_iff_not] at hB
  obtain ⟨⟨⟨⟨⟨⟨⟨⟨⟨hsel, hs⟩, hc⟩, hn⟩, hp⟩, hap⟩, hnd⟩, hAn⟩, hpA⟩, hpl⟩ := hB
  have inv0 : HeadInv .any l.toArray n (Array.replicate l.toArray.size false) :=
    ⟨by simp, fun j oj _ hl => (by rw [getD_replicate_false] at hl; cases hl), fun t _ ht => getD_in (by simpa using ht) (getD_replicate_false _ _)⟩
  have e0 : putA l.toArray (fun _ => none) A a = a := by
    clear hA hap hnd hAn hpA hpl hp h
    induction A with
    | nil => rfl
    | cons j A ih => exact ih
  have H := wpAnyT_free (md := .any) (R := l.drop n) (A := A) (zo := zo) (B := B) hsel hQ hs hc hn rfl hap hnd hAn hA hmono hSB n p A _ (fun _ => none) a w.drew inv0 hpl (fun _ h => h) hnd (fun j hj => ⟨fun _ => hj, fun _ => rfl⟩) hpA hS
    ⟨fun j hj g hg => (by cases hg), fun i hi j hj hij g h' hg => (by cases hg)⟩ h
  rw [e0] at H
  have hlen : n + (l.drop n).length = l.toArray.size := by simp; omega
  rw [hlen] at H
  exact wp_region_any hm (wpAny_of_T _ _ _ _ H)

variable {F : Act → Prop} {o : Oper} {p : List (Oper × Bool)} {a : Act}
theorem wpFree_still {v : Value} (hy : YieldsIf P ops S o v a) (h : wpFree P ops Q S F p (a.put o.dst v)) : wpFree P ops Q S F ((o, true) :: p) a := ⟨v, hy, h⟩
theorem wpFree_only (h : ∀ w, S w → ∀ K : Act → World → Prop, Shut (∀ a w', Below w.heap.size w w' → wpFree P ops Q S F p a → K a w') → if Region.wanted o (yielded ops a.tmps) = true then Oper.wp P o a w K Q else K (a.put o.dst undef) w) :
    wpFree P ops Q S F ((o, false) :: p) a := by
  intro w hS
  have h1 := h w hS (fun a' w' => Below w.heap.size w w' ∧ wpFree P ops Q S F p a') (fun a w' hb hW => ⟨hb, hW⟩)
  split
  · rename_i hw; rw [if_pos hw] at h1; exact h1
  · rename_i hw; rw [if_neg hw] at h1; exact h1.2
theorem Env.glue {w0 W : World} {l : List Fb} {g : Nat} {t : TypeId} {cs : Array Value} (h : Env w0 W l) (hg : Has W g t cs) (hb : w0.heap.size ≤ g) (hd : ∀ y ∈ l, y.g < g) : Env w0 W (⟨g, t, cs⟩ :: l) :=
  ⟨h.1, hb, hg, fun y hy => Nat.ne_of_lt (hd y hy), h.2⟩
theorem Env.glue2 {w0 W : World} {l : List Fb} {g g' B : Nat} {t t' : TypeId} {cs cs' : Array Value} (h : Env w0 W l) (hB : w0.heap.size ≤ B) (hd : ∀ y ∈ l, y.g < B) (hg : B ≤ g ∧ Has W g t cs) (hg' : B ≤ g' ∧ Has W g' t' cs') (hne : g ≠ g') : Env w0 W (⟨g, t, cs⟩ :: ⟨g', t', cs'⟩ :: l) :=
  ⟨h.1, Nat.le_trans hB hg.1, hg.2, fun y hy => by
    rcases List.mem_cons.1 hy with rfl | hy
    · exact Ne.symm hne
    · exact Nat.ne_of_lt (Nat.lt_of_lt_of_le (hd y hy) hg.1), Nat.le_trans hB hg'.1, hg'.2, fun y hy => Nat.ne_of_lt (Nat.lt_of_lt_of_le (hd y hy) hg'.1), h.2⟩
theorem LaysA.two {zo : Nat → TypeId × Array Value} {B : Nat} {i j : Nat} {G : Nat → Option Nat} {w : World} (h : LaysA zo B [i, j] G w) (hG : ∀ k ∈ [i, j], G k ≠ none) (hij : i ≠ j) :
    ∃ g g', G i = some g ∧ G j = some g' ∧ (B ≤ g ∧ Has w g (zo i).1 (zo i).2) ∧ (B ≤ g' ∧ Has w g' (zo j).1 (zo j).2) ∧ g ≠ g' := by
  obtain ⟨g, e⟩ := Option.ne_none_iff_exists'.1 (hG i (by simp))
  obtain ⟨g', e'⟩ := Option.ne_none_iff_exists'.1 (hG j (by simp))
  exact ⟨g, g', e, e', h.1 i (by simp) g e, h.1 j (by simp) g' e', h.2 i (by simp) j (by simp) hij g g' e e'⟩
theorem LaysA.one {zo : Nat → TypeId × Array Value} {B : Nat} {i : Nat} {G : Nat → Option Nat} {w : World} (h : LaysA zo B [i] G w) (hG : ∀ k ∈ [i], G k ≠ none) :
    ∃ g, G i = some g ∧ B ≤ g ∧ Has w g (zo i).1 (zo i).2 := by
  obtain ⟨g, e⟩ := Option.ne_none_iff_exists'.1 (hG i (by simp))
  exact ⟨g, e, h.1 i (by simp) g e⟩
theorem wpFree_end (h : F a) : wpFree P ops Q S F [] a := h
end
end Go.Proofs.Ytmfclelnaceonaa
