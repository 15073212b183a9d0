/- closes: whether listed edges lead from a node, through different nodes, back to it. -/
import Derived.Test.YtampfciacjifgaaCtn
import Derived.Test.YtampfciacjifgaaCyc
import Derived.Maps.OwnOps
import Derived.Maps.Views
namespace Go.Proofs.Ytampfciacjifgaa
open Go.ChangeShapes Go.WideShapes Go.ChangeAt Go.RowKit Go.Maps
set_option linter.unusedVariables false
set_option linter.unusedSimpArgs false

theorem idx2_any (A : Addr) (x1 x2 t : Nat) (w : World) (h0 : w.cell? A = some (.int .i64 x1)) (h1 : w.cell? ⟨A.block, A.off + 1, none⟩ = some (.int .i64 x2)) :
    Calls Try.prog 61 #[.slice (some A) 2 2, .int .i64 t] w fun e w' => ∃ i : Int, e = .returned (.int .i64 i) ∧ decide (0 ≤ i) = (decide (x1 = t) || decide (x2 = t)) ∧ w' = w := by
  go_enter Try.func61, Try.ntmps61
  go_wp2
  go_loopw [8] (fun v wr => ∃ k : Nat, v = .int .i64 k ∧ Hid (k = 0 ∨ (k = 1 ∧ x1 ≠ t) ∨ (k = 2 ∧ x1 ≠ t ∧ x2 ≠ t)) ∧ w = wr) (fun v _ => 2 - (intOf v).toNat)
  case atStart => exact ⟨0, rfl, Lib.hid (.inl rfl), rfl⟩
  case round =>
    obtain ⟨k, rfl, hk, rfl⟩ := hrel
    rcases hk.out with rfl | ⟨rfl, n1⟩ | ⟨rfl, n1, n2⟩
    · by_cases e : x1 = t
      · subst e
        have t1 : ((x1 : Int) == (x1 : Int)) = true := by simp
        go_wp2
        go_ret
        exact ⟨0, rfl, by simp, rfl⟩
      · have t1 : ((t : Int) == (x1 : Int)) = false := by simp; omega
        have E := Lib.hid e
        clear e
        go_wp2
        exact ⟨⟨1, rfl, Lib.hid (.inr (.inl ⟨rfl, E.out⟩)), trivial⟩, by simp [intOf]⟩
    · have N1 := Lib.hid n1
      clear n1
      by_cases e : x2 = t
      · subst e
        have t1 : ((x2 : Int) == (x2 : Int)) = true := by simp
        go_wp2
        go_ret
        exact ⟨1, rfl, by simp, rfl⟩
      · have t1 : ((t : Int) == (x2 : Int)) = false := by simp; omega
        have E := Lib.hid e
        clear e
        go_wp2
        exact ⟨⟨2, rfl, Lib.hid (.inr (.inr ⟨rfl, N1.out, E.out⟩)), trivial⟩, by simp [intOf]⟩
    · have N1 := Lib.hid (And.intro n1 n2)
      clear n1 n2
      go_wp2
      go_ret
      exact ⟨-1, rfl, by rw [decide_eq_false N1.out.1, decide_eq_false N1.out.2]; rfl, rfl⟩
def at2 (x1 x2 t : Nat) : Bool := decide (x1 = t) || decide (x2 = t)
theorem con2_any (A : Addr) (x1 x2 t : Nat) (w : World) (h0 : w.cell? A = some (.int .i64 x1)) (h1 : w.cell? ⟨A.block, A.off + 1, none⟩ = some (.int .i64 x2)) :
    Calls Try.prog 30 #[.slice (some A) 2 2, .int .i64 t] w fun e w' => e = .returned (.bool (at2 x1 x2 t)) ∧ w' = w := by
  have h := idx2_any A x1 x2 t w h0 h1
  rw [show (decide (x1 = t) || decide (x2 = t)) = at2 x1 x2 t from rfl] at h
  go_enter Try.func30, Try.ntmps30
  go_wp2_with (go_at_call 61; (with_reducible refine h.mono ?_); rintro e1 w1 ⟨i, rfl, hi, rfl⟩)
  go_ret
  exact ⟨rfl, rfl⟩

/-- A slice of whole numbers that can be read, wherever it begins. -/
def Rdy (w : World) (v : Value) (xs : List Nat) : Prop := ∃ q c, v = .slice q xs.length c ∧ ∀ j (h : j < xs.length), ∃ a, q = some a ∧ w.cell? (a.add j) = some (.int .i64 (xs[j] : Nat))
theorem Rdy.on {w w1 : World} {v : Value} {xs : List Nat} (h : Rdy w v xs) (hb : Below w.heap.size w w1) : Rdy w1 v xs := by
  obtain ⟨q, c, rfl, k⟩ := h
  refine ⟨q, c, rfl, fun j hj => ?_⟩
  obtain ⟨g, e, hc⟩ := k j hj
  exact ⟨g, e, cell_later hb hc⟩
theorem Rdl.y {w : World} {v : Value} {xs : List Nat} (h : Rdl w v xs) : Rdy w v xs := by
  obtain ⟨q, c, rfl, k⟩ := h
  refine ⟨q, c, rfl, fun j hj => ?_⟩
  obtain ⟨g, e, hc⟩ := k j hj
  exact ⟨_, e, by rw [Addr.add_lit, Nat.zero_add, hc]⟩
/-- The nodes that were seen, as the map keeps them. -/
def Sn (w : World) (b n : Nat) (xs : List Nat) : Prop := ∃ D : DataW Unit, w.ownsMap Try.prog 3 (plainElem Try.prog 4) b n D ∧ IsMap D ∧ ∀ k : Nat, D.atKey (.int .i64 k) (.lit (.bool false)) = .lit (.bool (xs.contains k))
def hasS (xs : List Nat) (k : Nat) : Bool := xs.contains k
theorem keyed3 : Keyed Try.prog 3 := int_keyed Try.underlying3
theorem zero4 (w : World) : (zeroValue 4).run Try.prog w = .ok (.bool false) w := by kernel_rfl
theorem i64_wf {k : Nat} (h : k ≤ 100000) : (Lit.int .i64 (k : Int)).wf = true := by
  simp [Lit.wf, IntKind.min, IntKind.max, IntKind.bits, IntKind.signed]; omega
theorem key_i {k : Nat} (h : k ≤ 100000) : keyOf Try.prog 3 (.int .i64 (k : Int)) = some (.int .i64 (k : Int)) := keyOf_int_mk Try.underlying3 (i64_wf h)
theorem Sn.made (w : World) : Sn (w.alloc (.map #[] 0)) w.heap.size 0 [] :=
  ⟨.map [], World.ownsMap_made _ _ _ _, isMap_empty, fun k => rfl⟩
theorem Sn.on {w w1 : World} {b n : Nat} {xs : List Nat} (h : Sn w b n xs) (hb : Below w.heap.size w w1) : Sn w1 b n xs := by
  obtain ⟨D, ⟨es, clock, hw, F, hs, hD⟩, hm, hk⟩ := h
  exact ⟨D, ⟨es, clock, (hb.block b (Array.getElem?_eq_some_iff.1 hw).1).trans hw, F, hs, hD⟩, hm, hk⟩
set_option maxRecDepth 100000 in
theorem Sn.look {w : World} {b n k : Nat} {xs : List Nat} (h : Sn w b n xs) (hk : k ≤ 100000) : (Instr.lookup 84 (.map (some b)) (.int .i64 (k : Int)) false).run Try.prog w = .ok (.bool (hasS xs k)) w := by
  obtain ⟨D, ho, hm, hx⟩ := h
  obtain ⟨v, ps, hrun, hv⟩ := ho.lookup keyed3 Try.underlying84 (zero4 w) (plainElem_bool Try.underlying4 false) (key_i hk)
  rw [hx k] at hv
  rw [hrun]
  unfold plainElem at hv
  rw [Try.underlying4] at hv
  cases v <;> simp at hv
  rw [hv.1]
  simp [hasS]
theorem Sn.put {w : World} {b n k : Nat} {xs : List Nat} (h : Sn w b n xs) (hk : k ≤ 100000) (hn : n ≤ 100000) : ∃ w', (Instr.mapUpdate 84 (.map (some b)) (.int .i64 (k : Int)) (.bool true)).run Try.prog w = .ok () w' ∧ Sn w' b (n + 1) (k :: xs) ∧ w.grownBy w' (some b) := by
  obtain ⟨D, ho, hm, hx⟩ := h
  obtain ⟨w', hrun, ho', hg⟩ := ho.update keyed3 Try.underlying84 (by unfold maxLen; omega) (key_i hk) (plainElem_bool Try.underlying4 true)
  refine ⟨w', hrun, ⟨_, ho', hm.put _ _, fun j => ?_⟩, hg⟩
  by_cases e : j = k
  · subst e
    rw [atKey_put_same hm (by trivial)]; simp
  · rw [atKey_put_other (by intro e2; cases e2; exact e rfl), hx j]
    simp [e]

/-- Whether the listed edges lead on from v, through nodes that were not seen, to s. -/
def cls (l : List (Nat × Nat)) (s : Nat) : List Nat → List Nat → Nat → Bool
  | [], _, v => decide (v = s)
  | i :: t, seen, v => if hasS seen v then false else match l[i]? with
    | some x => if at2 x.1 x.2 v then cls l s t (v :: seen) (oth x v) else false
    | none => false
theorem cls_seen {l : List (Nat × Nat)} {s i v : Nat} {t seen : List Nat} (h : hasS seen v = true) : cls l s (i :: t) seen v = false := by rw [cls, if_pos h]
theorem cls_off {l : List (Nat × Nat)} {s i v : Nat} {t seen : List Nat} {x : Nat × Nat} (h : hasS seen v = false) (hx : l[i]? = some x) (ha : at2 x.1 x.2 v = false) : cls l s (i :: t) seen v = false := by
  rw [cls, if_neg (by simp [h]), hx]; simp [ha]
theorem cls_on {l : List (Nat × Nat)} {s i v : Nat} {t seen : List Nat} {x : Nat × Nat} (h : hasS seen v = false) (hx : l[i]? = some x) (ha : at2 x.1 x.2 v = true) : cls l s (i :: t) seen v = cls l s t (v :: seen) (oth x v) := by
  rw [cls, if_neg (by simp [h]), hx]; simp [ha]
set_option maxRecDepth 100000 in
set_option maxHeartbeats 4000000 in
theorem closes_any (p : Option Addr) (n : Nat) (l : List (Nat × Nat)) (cap : Nat) (u : Value) (xs : List Nat) (s : Nat) (w : World) (hG : Gr w p n l) (hR : Rdy w u xs) (hx : ∀ i ∈ xs, i < l.length) (hxl : xs.length ≤ 100000) (hs : s < n) :
    Calls Try.prog 49 #[.slice p l.length cap, u, .int .i64 s] w fun e w' => e = .returned (.bool (cls l s xs [] s)) ∧ Below w.heap.size w w' := by
  have hm := hG.2.1
  have hn := hG.2.2.1
  have hmm := @run_makeMap Try.prog
  obtain ⟨q, c, rfl, hq⟩ := hR
  have hM := Sn.made w
  have bM := al1 w (.map #[] 0)
  have HQ := Lib.hid hq
  clear hq
  go_enter Try.func49, Try.ntmps49
  go_wp2
  go_loopw [8, 15] (fun v8 v15 wr => ∃ (k v : Nat) (seen : List Nat), v15 = .int .i64 k ∧ v8 = .int .i64 v ∧ k ≤ xs.length ∧ v < n ∧ Hid (cls l s xs [] s = cls l s (xs.drop k) seen v) ∧ Hid (Sn wr w.heap.size k seen) ∧ Below w.heap.size w wr) (fun _ v _ => xs.length - (intOf v).toNat)
  case atStart => exact ⟨0, s, [], rfl, rfl, Nat.zero_le _, hs, Lib.hid rfl, Lib.hid hM, bM⟩
  case round =>
    clear hM bM
    obtain ⟨k, v, seen, rfl, rfl, hk, hv, hC, hS, hB⟩ := hrel
    by_cases hlt : k < xs.length
    · have g1 : decide ((k : Int) < (xs.length : Int)) = true := by simp [hlt]
      have W1 : IntKind.i64.wrap ((k : Int) + 1) = ((k + 1 : Nat) : Int) := by rw [IntWalk.i64_in _ (by omega)]; omega
      obtain ⟨G, rfl, cj⟩ := HQ.out k hlt
      have cj := cell_later hB cj
      have hik := hx _ (List.getElem_mem hlt)
      have hCo := hC.out
      rw [List.drop_eq_getElem_cons hlt] at hCo
      obtain ⟨i, hi⟩ : ∃ i, i = xs[k] := ⟨_, rfl⟩
      rw [← hi] at cj hik hCo
      have hxe : l[i]? = some l[i] := List.getElem?_eq_getElem hik
      have hlm := hG.2.2.2 _ (List.getElem_mem hik)
      obtain ⟨a, rfl, d0, d1, -⟩ := (hG.on hB).at hik
      have hlook := hS.out.look (k := v) (by omega)
      obtain ⟨w1, hput, hS1, hg1⟩ := hS.out.put (k := v) (by omega) (by omega)
      have hB1 : Below w.heap.size w w1 := hB.grown hg1 hB.size (fun j hj => by cases hj; exact Nat.le_refl _)
      obtain ⟨a', ha', f0, f1, -⟩ := (hG.on hB1).at hik
      cases ha'
      obtain ⟨x, hxx⟩ : ∃ x, x = l[i] := ⟨_, rfl⟩
      rw [← hxx] at d0 d1 f0 f1 hxe hlm
      obtain ⟨x1, x2⟩ := x
      simp only [] at d0 d1 f0 f1 hlm
      have hu : oth (x1, x2) v < n := by unfold oth; split <;> simp only [] <;> omega
      have q1 : (0 : Int) ≤ (i : Int) := by omega
      have q2 : (i : Int) < (l.length : Int) := by omega
      have q3 : (0 : Int) ≤ (k : Int) := by omega
      have q4 : (k : Int) < (xs.length : Int) := by omega
      have HXE := Lib.hid hxe
      have HCO := Lib.hid hCo
      clear hxe hxx hi hCo hC
      have hF := fun W => far_any x1 x2 v W
      cases hsn : hasS seen v
      · rw [hsn] at hlook
        have hc2 := con2_any (a.add (i * 2)) x1 x2 v wr d0 d1
        cases ha2 : at2 x1 x2 v
        · rw [ha2] at hc2
          go_wp2_with (go_at_call 30; (with_reducible refine hc2.mono ?_); rintro e2 w2 ⟨rfl, rfl⟩)
          go_ret
          exact ⟨by rw [HCO.out, cls_off hsn HXE.out ha2]; rfl, hB⟩
        · rw [ha2] at hc2
          go_wp2_with (first
            | (go_at_call 30; (with_reducible refine hc2.mono ?_); rintro e2 w2 ⟨rfl, rfl⟩)
            | (go_at_call 55; (with_reducible refine (hF _).mono ?_); rintro e3 w3 ⟨rfl, h3⟩))
          exact ⟨⟨k + 1, oth (x1, x2) v, v :: seen, rfl, rfl, hlt, hu, Lib.hid (by rw [HCO.out, cls_on hsn HXE.out ha2]), Lib.hid (hS1.on h3), belows hB1 h3⟩, by simp [intOf]; omega⟩
      · rw [hsn] at hlook
        go_wp2
        go_ret
        exact ⟨by rw [HCO.out, cls_seen hsn]; rfl, hB⟩
    · have g1 : decide ((k : Int) < (xs.length : Int)) = false := by simp; omega
      have hCo := hC.out
      rw [List.drop_of_length_le (by omega)] at hCo
      have HCO := Lib.hid hCo
      clear hCo hC
      by_cases e : v = s
      · subst e
        have t1 : ((v : Int) == (v : Int)) = true := by simp
        go_wp2
        go_ret
        exact ⟨by rw [HCO.out, cls, decide_eq_true rfl]; rfl, hB⟩
      · have t1 : ((v : Int) == (s : Int)) = false := by simp; omega
        have E := Lib.hid e
        clear e
        go_wp2
        go_ret
        exact ⟨by rw [HCO.out, cls, decide_eq_false E.out]; rfl, hB⟩
end Go.Proofs.Ytampfciacjifgaa
