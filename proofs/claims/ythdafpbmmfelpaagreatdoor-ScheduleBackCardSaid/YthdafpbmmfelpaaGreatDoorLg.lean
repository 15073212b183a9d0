/- Legs of the program. -/
import Derived.Test.YthdafpbmmfelpaaGreatDoorVl
namespace Go.Proofs.YthdafpbmmfelpaaGreatDoor
open Go.ChangeShapes Go.WideShapes Go.ChangeAt Go.RowKit
set_option linter.unusedVariables false
set_option linter.unusedSimpArgs false

def legF (b : Bar) (j : Nat) : Int := b.ds.getD ((ixb b.code).getD j 0) 0
def legs (b : Bar) : List Int := (List.range (nl b.code)).map (legF b)
theorem legs_len (b : Bar) : (legs b).length = nl b.code := by simp [legs]
theorem barB_and {b : Bar} (h : barB b = true) : isC b.code = true ∧ b.ds.length = ndim b.code ∧ fitB 262144 b.ds = true ∧ nmB b = true ∧ isz b.size = true ∧ 1 ≤ b.count ∧ b.count ≤ 1000 := by
  unfold barB at h
  simp only [Bool.and_eq_true, decide_eq_true_eq, beq_iff_eq] at h
  obtain ⟨⟨⟨⟨⟨⟨h1, h2⟩, h3⟩, h4⟩, h5⟩, h6⟩, h7⟩ := h
  exact ⟨h1, h2, h3, h4, h5, h6, h7⟩
theorem leg_get {b : Bar} (h : barB b = true) {j : Nat} (hj : j < nl b.code) : ∃ i, ∃ hi : i < b.ds.length, ixf b.code j = ((i : Nat) : Int) ∧ legF b j = b.ds[i] := by
  obtain ⟨h1, h2, -⟩ := barB_and h
  have k := ix_lt h1 hj
  refine ⟨(ixb b.code).getD j 0, by omega, rfl, ?_⟩
  unfold legF
  rw [List.getD_eq_getElem?_getD, List.getElem?_eq_getElem (by omega)]; rfl
theorem leg_bd {b : Bar} (h : barB b = true) {j : Nat} (hj : j < nl b.code) : 1 ≤ legF b j ∧ legF b j ≤ 262144 := by
  obtain ⟨i, hi, -, e⟩ := leg_get h hj
  obtain ⟨-, -, h3, -⟩ := barB_and h
  rw [e]
  exact fitB_mem _ _ h3 (by omega) _ (List.getElem_mem hi)
set_option maxHeartbeats 4000000 in
set_option maxRecDepth 100000 in
theorem Legs_no (b : Bar) (w : World) (hk : b.Ok w) (hv : barB b = false) : Calls Tryz.prog 145 #[b.val] w fun e w' => e = .returned (.tuple #[.slice none 0 0, .int .i64 1]) ∧ Below w.heap.size w w' := by
  have hV := fun W (h : Below w.heap.size w W) => Valid_any b W (hk.on h)
  have E := (Env.nil w).add w.heap.size 60 b.cs rfl
  rw [hv] at hV
  obtain ⟨mk, sz, ct, cd, p, ds, cap⟩ := b
  simp only [Bar.cs, Bar.val] at *
  have C := E.cells
  simp [BC, CF] at C
  clear hk hv
  go_enter Tryz.func145, Tryz.ntmps145
  go_wp2_with (go_at_call 40; (with_reducible refine (hV _ (envb E)).mono ?_); rintro X w1 ⟨rfl, hb⟩; replace E := E.on hb; clear hb)
  exact bodyPost_ret (v := .tuple #[.slice none 0 0, .int .i64 1]) (by simp [results, Tryz.results145, go_sem]) rfl ⟨rfl, E.1⟩
set_option maxHeartbeats 4000000 in
set_option maxRecDepth 100000 in
theorem Legs_ok (b : Bar) (w : World) (hk : b.Ok w) (hv : barB b = true) : Calls Tryz.prog 145 #[b.val] w fun e w' =>
    ∃ g, e = .returned (.tuple #[.slice (some ⟨g, 0, none⟩) (nl b.code) (mc b.code), .int .i64 0]) ∧ Rdz w' (.slice (some ⟨g, 0, none⟩) (nl b.code) (mc b.code)) (legs b) ∧ Below w.heap.size w w' := by
  have hV := fun W (h : Below w.heap.size w W) => Valid_any b W (hk.on h)
  have E := (Env.nil w).add w.heap.size 60 b.cs rfl
  rw [hv] at hV
  obtain ⟨h1, h2, -⟩ := barB_and hv
  have hD := fun W => dims_any h1 W
  have n1 := nl_mc h1
  have n2 := nl_le h1
  have hG : ∀ j, j < nl b.code → ∃ i, ∃ hi : i < b.ds.length, ixf b.code j = ((i : Nat) : Int) ∧ legF b j = b.ds[i] := fun j hj => leg_get hv hj
  have hL : legs b = (List.range (nl b.code)).map (legF b) := rfl
  have hd := hk.rd
  unfold Bar.sv at hd
  obtain ⟨q, c0, e0, hd⟩ := hd
  simp only [Value.slice.injEq] at e0
  obtain ⟨rfl, -, rfl⟩ := e0
  have HD := Lib.hid hd
  have HG := Lib.hid hG
  have HL := Lib.hid hL
  clear hd hG hL h2 hv
  generalize legs b = LS at *
  generalize legF b = lf at *
  have hcs : b.cs = #[.string b.mark, .int .i64 b.size, .int .i64 b.count, .int .i64 b.code, .slice b.p b.ds.length b.cap] := rfl
  have hvv : b.val = .agg b.cs := rfl
  rw [hcs] at E hvv
  rw [hvv] at hV ⊢
  clear hk h1 hcs hvv
  generalize b.ds = ds at *
  generalize b.p = p at *
  generalize b.cap = cap at *
  generalize b.code = cd at *
  generalize ixf cd = ff at *
  generalize nl cd = n at *
  generalize mc cd = m at *
  have C := E.cells
  simp [BC, CF] at C
  go_enter Tryz.func145, Tryz.ntmps145
  go_wp2_with (first
    | (go_at_call 40; (with_reducible refine (hV _ (envb E)).mono ?_); rintro X w1 ⟨rfl, hb⟩; replace E := E.on hb; clear hb; replace C := E.cells; simp [BC, CF] at C)
    | (go_at_call 99; (with_reducible refine (hD _).mono ?_); rintro X w2 ⟨g, rfl, hR, hb, hg⟩; have hg2 := Nat.lt_of_lt_of_le C.1 hg; replace E := E.on hb; clear hb; replace C := E.cells; simp [BC, CF] at C))
  go_loopw [15] (fun v wr => ∃ k : Nat, v = .int .i64 k ∧ k ≤ n ∧ Row wr g m (fun j => if j < k then lf j else ff j) ∧ Env w wr [⟨w.heap.size, 60, #[.string b.mark, .int .i64 b.size, .int .i64 b.count, .int .i64 cd, .slice p ds.length cap]⟩]) (fun v _ => n - (intOf v).toNat)
  case atStart => exact ⟨0, rfl, Nat.zero_le _, hR.cong (fun i _ => by simp), E⟩
  case round =>
    clear hR E C
    obtain ⟨k, rfl, hk, hR, E⟩ := hrel
    have C := E.cells
    simp [BC, CF] at C
    by_cases hlt : k < n
    · have g1 : decide ((k : Int) < (n : Int)) = true := by simp [hlt]
      have W1 : IntKind.i64.wrap ((k : Int) + 1) = ((k + 1 : Nat) : Int) := by rw [IntWalk.i64_in _ (by omega)]; omega
      have q1 : (0 : Int) ≤ (k : Int) := by omega
      have q2 : (k : Int) < (n : Int) := by omega
      have d0 := hR.read (i := k) (by omega)
      obtain ⟨i, hi, e1, e2⟩ := HG.out k hlt
      rw [if_neg (by omega), e1] at d0
      obtain ⟨a, rfl, d1⟩ := HD.out i hi
      have d2 : wr.cell? (a.add i) = some (.int .i64 ds[i]) := cellLater E.1 d1
      rw [← e2] at d2
      have q3 : (0 : Int) ≤ (i : Int) := by omega
      have q4 : (i : Int) < (ds.length : Int) := by omega
      have o0 := Has.open_ hR k
      have hR2 := Row.put hR k (lf k)
      have E2 : Env w (wr.setCell ⟨g, k, none⟩ (.int .i64 (lf k))) [⟨w.heap.size, 60, #[.string b.mark, .int .i64 b.size, .int .i64 b.count, .int .i64 cd, .slice (some a) ds.length cap]⟩] :=
        ⟨E.1.setCell (by dsimp only; omega) _, E.2.far _ (by simp; omega)⟩
      have HR2 : Hid (Row (wr.setCell ⟨g, k, none⟩ (.int .i64 (lf k))) g m (fun j => if j < k + 1 then lf j else ff j)) := Lib.hid (hR2.cong fun j _ => by
        unfold upd
        split
        · subst_vars; simp
        · dsimp only; split <;> split <;> first | rfl | omega)
      have HE2 := Lib.hid E2
      clear hR2 E2 E hR d1 e2
      go_wp2
      exact ⟨⟨k + 1, rfl, hlt, HR2.out, HE2.out⟩, by simp [intOf]; omega⟩
    · have g1 : decide ((k : Int) < (n : Int)) = false := by simp; omega
      have hR3 : Row wr g m (fun j => if j < n then lf j else ff j) := by
        have : k = n := by omega
        rw [← this]; exact hR
      have hR4 : Rdz wr (.slice (some ⟨g, 0, none⟩) n m) LS := by
        have := Row.rdz (n := n) (cap := m) hR3 n1
        rw [HL.out, show ((List.range n).map lf) = (List.range n).map (fun j => if j < n then lf j else ff j) from List.map_congr_left fun j hj => by rw [if_pos (List.mem_range.1 hj)]]
        exact this
      clear hR3 hR
      go_wp2
      exact bodyPost_ret (v := .tuple #[.slice (some ⟨g, 0, none⟩) n m, .int .i64 0]) (by simp [results, Tryz.results145, go_sem]) rfl ⟨g, rfl, hR4, E.1⟩
end Go.Proofs.YthdafpbmmfelpaaGreatDoor
