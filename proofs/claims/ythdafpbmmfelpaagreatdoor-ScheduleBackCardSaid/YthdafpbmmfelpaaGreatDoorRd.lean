/- The reference: Copy. -/
import Derived.Test.YthdafpbmmfelpaaGreatDoorMg
import Derived.Test.YthdafpbmmfelpaaGreatDoorPc
namespace Go.Proofs.YthdafpbmmfelpaaGreatDoor
open Go.ChangeShapes Go.WideShapes Go.ChangeAt Go.RowKit
set_option linter.unusedVariables false
set_option linter.unusedSimpArgs false

theorem cell_grown {W W2 : World} {row : Option Nat} (hg : W.grownBy W2 row) {a : Addr} {v : Value} (h : W.cell? a = some v) (hr : some a.block ≠ row) : W2.cell? a = some v := by
  have hl := lt_of_cell h
  unfold World.cell? at h ⊢
  rw [hg.block a.block hl hr]; exact h
theorem add_block (a : Addr) (j : Nat) : (a.add j).block = a.block := by unfold Addr.add; split <;> rfl
/-- What is kept of a list that is read when another one's row grows. -/
theorem keep_all {W W2 : World} {F v' v : Value} {zs : List Int} (hg : W.grownBy W2 F.ownBlock) (hat : v'.ownBlock = F.ownBlock ∨ v'.ownBlock = some W.heap.size) (hr : Rdz W v zs) (hx : ∀ b, F.ownBlock = some b → Rdx b W v zs) :
    Rdz W2 v zs ∧ (∀ b, v'.ownBlock = some b → Rdx b W2 v zs) ∧ (∀ b, Rdx b W v zs → Rdx b W2 v zs) := by
  have key : ∀ b, (F.ownBlock = some b ∨ (F.ownBlock = none ∧ True) ∨ True) → True := fun _ _ => trivial
  obtain ⟨q, c, rfl, k⟩ := hr
  have hk : ∀ j (h : j < zs.length), ∃ a, q = some a ∧ W.cell? (a.add j) = some (.int .i64 zs[j]) ∧ some a.block ≠ F.ownBlock := fun j hj => by
    obtain ⟨a, e, hc⟩ := k j hj
    refine ⟨a, e, hc, fun hb => ?_⟩
    obtain ⟨q', c', e', k'⟩ := hx a.block hb.symm
    simp only [Value.slice.injEq] at e'
    obtain ⟨a', e2, h2, -⟩ := k' j hj
    rw [← e'.1, e] at e2
    cases e2
    exact h2 rfl
  have hk2 : ∀ j (h : j < zs.length), ∃ a, q = some a ∧ W2.cell? (a.add j) = some (.int .i64 zs[j]) ∧ some a.block ≠ F.ownBlock ∧ a.block < W.heap.size := fun j hj => by
    obtain ⟨a, e, hc, hn⟩ := hk j hj
    have := lt_of_cell hc
    rw [add_block] at this
    exact ⟨a, e, cell_grown hg hc (by rw [add_block]; exact hn), hn, this⟩
  refine ⟨⟨q, c, rfl, fun j hj => (hk2 j hj).imp fun a x => ⟨x.1, x.2.1⟩⟩, fun b hb => ⟨q, c, rfl, fun j hj => (hk2 j hj).imp fun a x => ⟨x.1, ?_, x.2.1⟩⟩, fun b hb => ⟨q, c, rfl, fun j hj => (hk2 j hj).imp fun a x => ⟨x.1, ?_, x.2.1⟩⟩⟩
  rotate_left
  · obtain ⟨q', c', e', k'⟩ := hb
    simp only [Value.slice.injEq] at e'
    obtain ⟨a', e2, h2, -⟩ := k' j hj
    rw [← e'.1, x.1] at e2
    cases e2
    exact h2
  rcases hat with h | h
  · intro e
    rw [h] at hb
    exact x.2.2.1 (by rw [hb, e])
  · intro e
    rw [h] at hb
    simp only [Option.some.injEq] at hb
    have := x.2.2.2
    omega
/-- A list of bars of the call's own, whose dimensions lie in no block of the list's own. -/
structure Cpy (B : Nat) (w : World) (v : Value) (l m : List Bar) : Prop where
  own : Own bc 60 5 B w v m
  eq : m.map nrm = l.map nrm
  rd : ∀ x ∈ m, x.mark.size ≤ maxLen ∧ x.ds.length ≤ 1000 ∧ ∀ b, v.ownBlock = some b → Rdx b w x.sv x.ds
theorem rdz_rdx {w : World} {v : Value} {zs : List Int} (h : Rdz w v zs) {b : Nat} (hb : ∀ q c, v = .slice (some q) zs.length c → 0 < zs.length → q.block ≠ b) : Rdx b w v zs := by
  obtain ⟨q, c, rfl, k⟩ := h
  exact ⟨q, c, rfl, fun j hj => (k j hj).imp fun a x => ⟨x.1, hb a c (by rw [x.1]) (by omega), x.2⟩⟩
set_option maxHeartbeats 16000000 in
set_option maxRecDepth 100000 in
theorem rCopy_any (p : Option Addr) (l : List Bar) (cap : Nat) (w : World) (hS : Slb w p l cap) (hl : l.length ≤ 200) (hd : ∀ x ∈ l, 1 ≤ x.ds.length ∧ x.ds.length ≤ 1000) :
    Calls Tryz.prog 29 #[.slice p l.length cap] w fun e w' => ∃ v m, e = .returned v ∧ Own bc 60 5 w.heap.size w' v m ∧ m.map nrm = l.map nrm ∧ (∀ x ∈ m, x.Ok w' ∧ (∀ b, (b < w.heap.size ∨ v.ownBlock = some b) → Rdx b w' x.sv x.ds)) ∧ Below w.heap.size w w' := by
  obtain ⟨i0, hi, hz0, hz1, hz2⟩ := info_parts info3
  obtain ⟨j0, hj, hy0, hy1, hy2⟩ := info_parts info60
  have HD := Lib.hid hd
  clear hd
  go_enter Tryz.func29, Tryz.ntmps29
  go_wp2
  go_loopw [3, 4] (fun v3 v4 wr => ∃ (k : Nat) (F : Value) (m : List Bar), v4 = .int .i64 k ∧ F = v3 ∧ k ≤ l.length ∧ Own bc 60 5 w.heap.size wr F m ∧ m.map nrm = (l.take k).map nrm ∧ Hid (∀ x ∈ m, x.Ok wr ∧ (∀ b, (b < w.heap.size ∨ F.ownBlock = some b) → Rdx b wr x.sv x.ds)) ∧ Below w.heap.size w wr) (fun _ v _ => l.length - (intOf v).toNat)
  case atStart => exact ⟨0, _, [], rfl, rfl, Nat.zero_le _, ⟨rfl, .inl ⟨rfl, rfl⟩⟩, rfl, Lib.hid (fun x h => by cases h), Below.refl _ _⟩
  case round =>
    obtain ⟨k, F, m, rfl, rfl, hk, hO, hN, hX, hB⟩ := hrel
    have hml : m.length = k := by have := congrArg List.length hN; simpa [Nat.min_eq_left hk] using this
    by_cases hlt : k < l.length
    · have g1 : decide ((k : Int) < (l.length : Int)) = true := by simp [hlt]
      have W1 : IntKind.i64.wrap ((k : Int) + 1) = ((k + 1 : Nat) : Int) := by rw [IntWalk.i64_in _ (by omega)]; omega
      have q1 : (0 : Int) ≤ (k : Int) := by omega
      have q2 : (k : Int) < (l.length : Int) := by omega
      obtain ⟨a, rfl, hf⟩ := (hS.on hB).at_ k hlt
      have hmem := List.getElem_mem hlt
      have hk1 := (hS.ok _ hmem).on hB
      have hd1 := HD.out _ hmem
      have htk : (l.take (k + 1)).map nrm = (l.take k).map nrm ++ [nrm l[k]] := by rw [List.take_succ_eq_append_getElem hlt, List.map_append]; rfl
      obtain ⟨x, hx⟩ : ∃ x, x = l[k] := ⟨_, rfl⟩
      rw [← hx] at hf hk1 hd1 htk
      clear hx hmem
      obtain ⟨mk, sz, ct, cd, dp, ds, dc⟩ := x
      obtain ⟨c0, c1, c2, c3, c4⟩ := hf
      dsimp only at c0 c1 c2 c3 c4 hd1
      have hnm : mk.size ≤ maxLen := hk1.nm
      have hrd : Rdz wr (.slice dp ds.length dc) ds := hk1.rd
      have E := (Env.nil wr).add wr.heap.size 60 #[.string mk, .int .i64 sz, .int .i64 ct, .int .i64 cd, .slice dp ds.length dc] rfl
      have E2 := E.add (wr.heap.size + 1) 3 #[] (by simp)
      obtain ⟨-, C0, C1, C2, C3, C4⟩ := s_b5 E
      have HFr : Hid (∀ W, Below wr.heap.size wr W → W.cell? ⟨(a.add (k * 5)).block, (a.add (k * 5)).off + 4, none⟩ = some (.slice dp ds.length dc)) := Lib.hid fun W h => cell_later h c4
      have e4 := HFr.out _ (envb E2)
      have HE := Lib.hid E
      have HE2 := Lib.hid E2
      have HB := Lib.hid hB
      have HRd := Lib.hid hrd
      clear E E2 hk1 hB hrd
      obtain ⟨da, rfl⟩ : ∃ da, dp = some da := by
        obtain ⟨q, c, e, kk⟩ := HRd.out
        obtain ⟨a', e2, -⟩ := kk 0 (by omega)
        simp only [Value.slice.injEq] at e
        exact ⟨a', by rw [e.1, e2]⟩
      have hR2 := HRd.out.on (envb HE2.out)
      have HNw : Hid (∀ j u, (ds.map (Value.int .i64))[j]? = some u → ((wr.alloc (.cells #[.string mk, .int .i64 sz, .int .i64 ct, .int .i64 cd, .slice (some da) ds.length dc] 60)).alloc (.cells #[] 3)).cell? (da.add j) = some u) := Lib.hid fun j u hj => by
        obtain ⟨q', c', e', kk⟩ := hR2
        simp only [Value.slice.injEq] at e'
        obtain ⟨rfl, -, rfl⟩ := e'
        have hjl : j < ds.length := by have := (List.getElem?_eq_some_iff.1 hj).1; simpa using this
        obtain ⟨a', e, hc⟩ := kk j hjl
        cases e
        rw [hc, ← hj]; simp [hjl]
      have HL : Hid ((ds.map (Value.int .i64)).length = ds.length * 1) := Lib.hid (by simp)
      have H1 : ∀ u ∈ ds.map (Value.int .i64), u.oneCell' = true := by
        intro u hu
        obtain ⟨x, -, rfl⟩ := List.mem_map.1 hu
        rfl
      clear hR2
      have hmade : ((wr.alloc (.cells #[.string mk, .int .i64 sz, .int .i64 ct, .int .i64 cd, .slice (some da) ds.length dc] 60)).alloc (.cells #[] 3)).ownsRow (wr.heap.size + 1) 3 1 (.slice (some ⟨wr.heap.size + 1, 0, none⟩) 0 0) 0 [] := by
        have h : ((wr.alloc (.cells #[.string mk, .int .i64 sz, .int .i64 ct, .int .i64 cd, .slice (some da) ds.length dc] 60)).alloc (.cells #[] 3)).ownsRow (wr.heap.size + 1) 3 1 (.slice (some ⟨(wr.alloc (.cells #[.string mk, .int .i64 sz, .int .i64 ct, .int .i64 cd, .slice (some da) ds.length dc] 60)).heap.size, 0, none⟩) 0 0) 0 [] := World.ownsRow_made _ #[] 0 (by rw [World.size_alloc]; exact Nat.le_refl _) (Nat.zero_le _) rfl
        rw [World.size_alloc] at h
        exact h
      go_wp2_with (at_builtin; refine wpList_append_own_at _ rfl _ _ 58 rfl (wr.heap.size + 1) 3 i0 _ 1 8 Tryz.underlying58 hi hz0 hz1 hz2 rfl (by decide) _ 0 [] rfl hmade da ds.length dc (ds.map (Value.int .i64)) rfl HL.out HNw.out H1 (by unfold maxLen; omega) (by omega) (by simp) ?_)
      intro v1 w2 o1 o2 o3 o4
      have hV1 : OwnI (wr.heap.size + 1) w2 v1 ds := by
        unfold OwnI
        simpa using o1
      have E3 : Env wr w2 [⟨wr.heap.size, 60, #[.string mk, .int .i64 sz, .int .i64 ct, .int .i64 cd, .slice (some da) ds.length dc]⟩] := env_row (HE.out.more (.cells #[] 3)) o2 (fun k hk => by simp [Value.ownBlock] at hk; omega)
      obtain ⟨p1, k1, rfl, -⟩ := hV1.rdz
      have B3 := envb E3
      obtain ⟨-, D0, D1, D2, D3, D4⟩ := s_b5 E3
      have F4 : w2.frozen? ⟨wr.heap.size, 4, none⟩ = false := Has.open_ E3.2.2.1 4
      have hV2 : OwnI (wr.heap.size + 1) (w2.setCell ⟨wr.heap.size, 4, none⟩ (.slice p1 ds.length k1)) (.slice p1 ds.length k1) ds := own_kept hV1 fun q hq hBq => Below.heap_setCell _ _ _ _ (by show q ≠ wr.heap.size; omega)
      have E4 : Env wr (w2.setCell ⟨wr.heap.size, 4, none⟩ (.slice p1 ds.length k1)) [⟨wr.heap.size, 60, #[.string mk, .int .i64 sz, .int .i64 ct, .int .i64 cd, .slice p1 ds.length k1]⟩] := Env.put E3 0 4 (.slice p1 ds.length k1) rfl
      have HO4 := Lib.hid (own_on hO (envb E4))
      have HX4 : Hid (∀ x ∈ m, x.Ok (w2.setCell ⟨wr.heap.size, 4, none⟩ (.slice p1 ds.length k1)) ∧ (∀ b, (b < w.heap.size ∨ F.ownBlock = some b) → Rdx b (w2.setCell ⟨wr.heap.size, 4, none⟩ (.slice p1 ds.length k1)) x.sv x.ds)) := Lib.hid fun x hx => ⟨(hX.out x hx).1.on (envb E4), fun b hb => ((hX.out x hx).2 b hb).on (envb E4)⟩
      have HB4 := Lib.hid (envbb HB.out E4)
      have HFb := Lib.hid (fun q hq => World.ownsRow.lt hO q hq)
      have hw4 : (w2.setCell ⟨wr.heap.size, 4, none⟩ (.slice p1 ds.length k1)).heap.size = w2.heap.size := by simp [World.setCell]
      have HV2 := Lib.hid hV2
      have HV1 := Lib.hid (fun q hq => World.ownsRow.lt hV1 q hq)
      have HE4 := Lib.hid E4
      have HZ := Lib.hid hw4
      obtain ⟨-, G0, G1', G2, G3, G4⟩ := s_b5 E4
      clear o1 o2 o3 o4 hV1 E3 hV2 E4 hO hX HL H1 HNw hw4
      generalize hW4 : w2.setCell ⟨wr.heap.size, 4, none⟩ (.slice p1 ds.length k1) = w4 at *
      have HN4 := Has.new_ w4 60 #[.string mk, .int .i64 sz, .int .i64 ct, .int .i64 cd, .slice p1 ds.length k1]
      have ho2 := own_on HO4.out (al1 w4 (.cells #[.string mk, .int .i64 sz, .int .i64 ct, .int .i64 cd, .slice p1 ds.length k1] 60))
      have hcl : ∀ (j : Nat) (u : Value), [Value.string mk, .int .i64 sz, .int .i64 ct, .int .i64 cd, .slice p1 ds.length k1][j]? = some u → (w4.alloc (.cells #[.string mk, .int .i64 sz, .int .i64 ct, .int .i64 cd, .slice p1 ds.length k1] 60)).cell? ((⟨w4.heap.size, 0, none⟩ : Addr).add j) = some u := fun j u h => by
        rw [Addr.add_lit, Nat.zero_add, HN4.read j]
        simpa using h
      have hsz4 := HB4.out.size
      have HBr := HB
      go_wp2_with (at_builtin; refine wpList_append_own_at _ rfl _ _ 22 rfl w.heap.size 60 j0 _ 5 64 Tryz.underlying22 hj hy0 hy1 hy2 rfl (by decide) _ m.length (m.flatMap bc) rfl ho2 _ 1 1 [.string mk, .int .i64 sz, .int .i64 ct, .int .i64 cd, .slice p1 ds.length k1] rfl rfl hcl (by simp [Value.oneCell']) (by unfold maxLen; omega) (by omega) (by simp; omega) ?_)
      intro v' w6 r1 r2 r3 r4
      have O7 : Own bc 60 5 w.heap.size w6 v' (m ++ [(⟨mk, sz, ct, cd, p1, ds, k1⟩ : Bar)]) := own_snoc (by rw [hml]; exact r1)
      have B7 : Below w.heap.size w w6 := (al HB4.out (.cells #[.string mk, .int .i64 sz, .int .i64 ct, .int .i64 cd, .slice p1 ds.length k1] 60)).grown r2 (al HB4.out (.cells #[.string mk, .int .i64 sz, .int .i64 ct, .int .i64 cd, .slice p1 ds.length k1] 60)).size (fun q hq => (World.ownsRow.lt ho2 q hq).1)
      have HR : Hid ((m ++ [(⟨mk, sz, ct, cd, p1, ds, k1⟩ : Bar)]).map nrm = (l.take (k + 1)).map nrm) := Lib.hid (by rw [htk, List.map_append, hN]; rfl)
      have HX7 : Hid (∀ x ∈ m ++ [(⟨mk, sz, ct, cd, p1, ds, k1⟩ : Bar)], x.Ok w6 ∧ (∀ b, (b < w.heap.size ∨ v'.ownBlock = some b) → Rdx b w6 x.sv x.ds)) := Lib.hid fun x hx => by
        rcases List.mem_append.1 hx with hx | hx
        · obtain ⟨h1, h2⟩ := HX4.out x hx
          have k1 := h1.on (al1 w4 (.cells #[.string mk, .int .i64 sz, .int .i64 ct, .int .i64 cd, .slice p1 ds.length k1] 60))
          obtain ⟨k2, k3, k4⟩ := keep_all r2 (by rw [World.size_alloc]; exact r4) k1.rd (fun b hb => (h2 b (.inr hb)).on (al1 w4 _))
          exact ⟨⟨h1.nm, h1.ln, k2⟩, fun b hb => hb.elim (fun h => k4 b ((h2 b (.inl h)).on (al1 w4 _))) (k3 b)⟩
        · rw [List.mem_singleton.1 hx]
          have hv5 := own_on HV2.out (al1 w4 (.cells #[.string mk, .int .i64 sz, .int .i64 ct, .int .i64 cd, .slice p1 ds.length k1] 60))
          obtain ⟨k2, k3, k4⟩ := keep_all r2 (by rw [World.size_alloc]; exact r4) (OwnI.rdz hv5) (fun b hb => Rdx.own hv5 (by have := (HFb.out b hb).2; omega))
          exact ⟨⟨hnm, by show ds.length ≤ maxLen; unfold maxLen; omega, k2⟩, fun b hb => hb.elim (fun h => k4 b (Rdx.own hv5 (by have := HBr.out.size; omega))) (k3 b)⟩
      have HO7 := Lib.hid O7
      have HB7 := Lib.hid B7
      clear r1 r2 r3 r4 O7 B7 ho2 hcl HN4 HX4 HV2
      go_wp2
      exact ⟨⟨k + 1, _, _, rfl, rfl, hlt, HO7.out, HR.out, HX7, HB7.out⟩, by simp [intOf]; omega⟩
    · have g1 : decide ((k : Int) < (l.length : Int)) = false := by simp; omega
      have e : l.take k = l := List.take_of_length_le (by omega)
      rw [e] at hN
      have HA := Lib.hid (And.intro hO (And.intro hN (And.intro hX hB)))
      clear hO hN hX hB e
      go_wp2
      go_ret
      obtain ⟨h1, h2, h3, h4⟩ := HA.out
      exact ⟨_, m, rfl, h1, h2, h3.out, h4⟩
end Go.Proofs.YthdafpbmmfelpaaGreatDoor
