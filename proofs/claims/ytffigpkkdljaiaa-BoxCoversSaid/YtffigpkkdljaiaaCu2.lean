/- The reference: the parts of a box. -/
import Derived.Test.YtffigpkkdljaiaaCu1
namespace Go.Proofs.Ytffigpkkdljaiaa
open Go.ChangeShapes Go.WideShapes Go.ChangeAt Go.RowKit
set_option linter.unusedVariables false
set_option linter.unusedSimpArgs false

theorem s_b {w W' : World} {b : Bx} (E : Env w W' [⟨w.heap.size, 25, #[.int .i64 b.a, .int .i64 b.b, .int .i64 b.c, .int .i64 b.d, .int .i64 b.e, .int .i64 b.f]⟩]) : Env w W' [⟨w.heap.size, 25, #[.int .i64 b.a, .int .i64 b.b, .int .i64 b.c, .int .i64 b.d, .int .i64 b.e, .int .i64 b.f]⟩] ∧ W'.cell? ⟨w.heap.size, 0, none⟩ = some (.int .i64 b.a) ∧ W'.cell? ⟨w.heap.size, 1, none⟩ = some (.int .i64 b.b) ∧ W'.cell? ⟨w.heap.size, 2, none⟩ = some (.int .i64 b.c) ∧ W'.cell? ⟨w.heap.size, 3, none⟩ = some (.int .i64 b.d) ∧ W'.cell? ⟨w.heap.size, 4, none⟩ = some (.int .i64 b.e) ∧ W'.cell? ⟨w.heap.size, 5, none⟩ = some (.int .i64 b.f) := by
  have C := E.cells
  simp [BC, CF] at C
  simp [C, E]
def row2 (p : S2) (Y Z : List S2) : List Bx := Y.flatMap fun q => Z.map fun r => pbox p q r
theorem prt_row (X Y Z : List S2) : prt X Y Z = X.flatMap fun p => row2 p Y Z := rfl
theorem prt_take (X Y Z : List S2) {i : Nat} (h : i < X.length) : prt (X.take (i + 1)) Y Z = prt (X.take i) Y Z ++ row2 X[i] Y Z := by
  rw [prt_row, prt_row, List.take_succ_eq_append_getElem h, List.flatMap_append]
  simp
theorem row2_take (p : S2) (Y Z : List S2) {i : Nat} (h : i < Y.length) : row2 p (Y.take (i + 1)) Z = row2 p (Y.take i) Z ++ Z.map fun r => pbox p Y[i] r := by
  unfold row2
  rw [List.take_succ_eq_append_getElem h, List.flatMap_append]
  simp
theorem row2_len (p : S2) (Y Z : List S2) : (row2 p Y Z).length = Y.length * Z.length := by
  unfold row2
  induction Y with
  | nil => simp
  | cons q Y ih => rw [List.flatMap_cons, List.length_append, ih, List.length_map, List.length_cons, Nat.succ_mul]; omega
theorem prt_len (X Y Z : List S2) : (prt X Y Z).length = X.length * (Y.length * Z.length) := by
  rw [prt_row]
  induction X with
  | nil => simp
  | cons q Y ih => rw [List.flatMap_cons, List.length_append, ih, row2_len, List.length_cons, Nat.succ_mul]; omega
theorem prt_bound {X Y Z : List S2} (hx : X.length ≤ 18) (hy : Y.length ≤ 18) (hz : Z.length ≤ 18) (i k m : Nat) (p q : S2) : (prt (X.take i) Y Z ++ row2 p (Y.take k) Z ++ (Z.take m).map fun r => pbox p q r).length ≤ 6174 := by
  have h1 : (X.take i).length ≤ 18 := by rw [List.length_take]; omega
  have h2 : (Y.take k).length ≤ 18 := by rw [List.length_take]; omega
  have h3 : (Z.take m).length ≤ 18 := by rw [List.length_take]; omega
  have h4 := Nat.mul_le_mul hy hz
  have h5 := Nat.mul_le_mul h1 h4
  have h6 := Nat.mul_le_mul h2 hz
  rw [List.length_append, List.length_append, prt_len, row2_len, List.length_map]
  omega
theorem refX_ne (lo hi : Int) (os : List S2) : refX lo hi os ≠ [] := by
  by_cases h : lo = hi
  · unfold refX; rw [if_pos h]; simp
  · have := refX_len os h
    intro e; rw [e] at this; simp at this
theorem refX_small (lo hi : Int) (os : List S2) (h : os.length ≤ 8) : (prX (refX lo hi os)).length ≤ 18 := by
  rw [prX_cut]
  have := cutS_len lo hi os
  omega
theorem own_cons {B : Nat} {w : World} {v : Value} {O : List Bx} {y : Bx} (h : w.ownsRow B 25 6 v (O.length + 1) (O.flatMap cb ++ cb y)) : Own cb 25 6 B w v (O ++ [y]) := by
  unfold Own
  rw [List.length_append, List.flatMap_append]
  simpa using h
set_option maxHeartbeats 64000000 in
set_option maxRecDepth 100000 in
theorem parts_core (p : Option Addr) (l : List Bx) (cap : Nat) (b : Bx) (w : World) (hS : Sl w p l) (X Y Z : List Int) (hX : X ≠ []) (hY : Y ≠ []) (hZ : Z ≠ []) (nX : (prX X).length ≤ 18) (nY : (prX Y).length ≤ 18) (nZ : (prX Z).length ≤ 18)
    (cx : ∀ W, Sl W p l → Calls Try.prog 63 #[.slice p l.length cap, b.val, .int .i64 0] W fun e w' => ∃ v, e = .returned v ∧ OwnZ W.heap.size w' v X ∧ Below W.heap.size W w')
    (cy : ∀ W, Sl W p l → Calls Try.prog 63 #[.slice p l.length cap, b.val, .int .i64 1] W fun e w' => ∃ v, e = .returned v ∧ OwnZ W.heap.size w' v Y ∧ Below W.heap.size W w')
    (cz : ∀ W, Sl W p l → Calls Try.prog 63 #[.slice p l.length cap, b.val, .int .i64 2] W fun e w' => ∃ v, e = .returned v ∧ OwnZ W.heap.size w' v Z ∧ Below W.heap.size W w') :
    Calls Try.prog 57 #[.slice p l.length cap, b.val] w fun e w' => ∃ v, e = .returned v ∧ Own cb 25 6 w.heap.size w' v (prt (prX X) (prX Y) (prX Z)) ∧ Below w.heap.size w w' := by
  obtain ⟨i0, hinf, hz0, hz1, hz2⟩ := info_parts info25
  have E := (Env.nil w).add w.heap.size 25 #[.int .i64 b.a, .int .i64 b.b, .int .i64 b.c, .int .i64 b.d, .int .i64 b.e, .int .i64 b.f] rfl
  have C := E.cells
  simp [BC, CF] at C
  unfold Bx.val at *
  go_enter Try.func57, Try.ntmps57
  go_wp2_with fail
  refine wp_region_plan 9 [(0, true), (1, true), (3, true), (4, true), (6, true), (7, true), (2, false), (5, false), (8, false)] (fun W' => Env w W' [⟨w.heap.size, 25, #[.int .i64 b.a, .int .i64 b.b, .int .i64 b.c, .int .i64 b.d, .int .i64 b.e, .int .i64 b.f]⟩] ∧ W'.cell? ⟨w.heap.size, 0, none⟩ = some (.int .i64 b.a) ∧ W'.cell? ⟨w.heap.size, 1, none⟩ = some (.int .i64 b.b) ∧ W'.cell? ⟨w.heap.size, 2, none⟩ = some (.int .i64 b.c) ∧ W'.cell? ⟨w.heap.size, 3, none⟩ = some (.int .i64 b.d) ∧ W'.cell? ⟨w.heap.size, 4, none⟩ = some (.int .i64 b.e) ∧ W'.cell? ⟨w.heap.size, 5, none⟩ = some (.int .i64 b.f)) (by kernel_rfl) (by kernel_rfl) (fun _ _ d _ _ h => by cases d <;> exact h) (s_b E.drw) ?_
  simp only [List.filterMap_cons, List.filterMap_nil, List.getElem?_cons_zero, List.getElem?_cons_succ, Option.map_some, List.drop_succ_cons, List.drop_zero]
  replace E := E.drw
  iterate 6 (refine wpPlan_still (v := ?_) (Or.inl ⟨by rfl, ?_⟩) ?_; rotate_left; (focus (intro W hW; (try dsimp only at hW); go_split_ands; go_simp; try with_reducible rfl)); try simp only [Act.put, List.setIfInBounds_toArray, List.set_cons_zero, List.set_cons_succ])
  refine wpPlan_only (fun K hK => ?_)
  try go_simp
  (go_at_call 63; (with_reducible refine (cx _ (hS.on (envb E))).mono ?_); rintro X1 w1 ⟨vx, rfl, ox, hb⟩; replace E := E.on hb; clear hb)
  try go_wp2_with fail
  refine hK.out _ _ (s_b E) ?_
  clear hK K
  try simp only [Act.put, List.setIfInBounds_toArray, List.set_cons_zero, List.set_cons_succ]
  refine wpPlan_only (fun K hK => ?_)
  try go_simp
  (go_at_call 63; (with_reducible refine (cy _ (hS.on (envb E))).mono ?_); rintro X1 w2 ⟨vy, rfl, oy, hb⟩; replace E := E.on hb; replace ox := own_on ox hb; clear hb)
  try go_wp2_with fail
  refine hK.out _ _ (s_b E) ?_
  clear hK K
  try simp only [Act.put, List.setIfInBounds_toArray, List.set_cons_zero, List.set_cons_succ]
  refine wpPlan_only (fun K hK => ?_)
  try go_simp
  (go_at_call 63; (with_reducible refine (cz _ (hS.on (envb E))).mono ?_); rintro X1 w3 ⟨vz, rfl, oz, hb⟩; replace E := E.on hb; replace ox := own_on ox hb; replace oy := own_on oy hb; clear hb)
  try go_wp2_with fail
  refine hK.out _ _ (s_b E) ?_
  clear hK K
  try simp only [Act.put, List.setIfInBounds_toArray, List.set_cons_zero, List.set_cons_succ]
  refine wpPlan_end ?_
  go_wp2_with fail
  obtain ⟨qx, cpx, rfl, hCx⟩ := (Own.rd zl (ownz.2 ox)).z
  obtain ⟨qy, cpy, rfl, hCy⟩ := (Own.rd zl (ownz.2 oy)).z
  obtain ⟨qz, cpz, rfl, hCz⟩ := (Own.rd zl (ownz.2 oz)).z
  have lX := prX_len X
  have lY := prX_len Y
  have lZ := prX_len Z
  have pX := List.length_pos_iff.2 hX
  have pY := List.length_pos_iff.2 hY
  have pZ := List.length_pos_iff.2 hZ
  obtain ⟨gx, rfl, -⟩ := hCx 0 pX
  obtain ⟨gy, rfl, -⟩ := hCy 0 pY
  obtain ⟨gz, rfl, -⟩ := hCz 0 pZ
  have rX : ∀ (j : Nat) (h : j < X.length), w3.cell? ⟨gx, j, none⟩ = some (.int .i64 X[j]) := fun j h => by obtain ⟨g, e, hc⟩ := hCx j h; cases e; exact hc
  have rY : ∀ (j : Nat) (h : j < Y.length), w3.cell? ⟨gy, j, none⟩ = some (.int .i64 Y[j]) := fun j h => by obtain ⟨g, e, hc⟩ := hCy j h; cases e; exact hc
  have rZ : ∀ (j : Nat) (h : j < Z.length), w3.cell? ⟨gz, j, none⟩ = some (.int .i64 Z[j]) := fun j h => by obtain ⟨g, e, hc⟩ := hCz j h; cases e; exact hc
  have HBw := envb E
  clear hCx hCy hCz ox oy oz C cx cy cz hS
  have WX : IntKind.i64.wrap ((X.length : Int) - 1) = ((X.length - 1 : Nat) : Int) := by rw [IntWalk.i64_in _ (by omega)]; omega
  have WY : IntKind.i64.wrap ((Y.length : Int) - 1) = ((Y.length - 1 : Nat) : Int) := by rw [IntWalk.i64_in _ (by omega)]; omega
  have WZ : IntKind.i64.wrap ((Z.length : Int) - 1) = ((Z.length - 1 : Nat) : Int) := by rw [IntWalk.i64_in _ (by omega)]; omega
  go_loopw [8, 9] (fun v8 v9 wr => ∃ i : Nat, v9 = .int .i64 i ∧ i ≤ (prX X).length ∧ Own cb 25 6 w3.heap.size wr v8 (prt ((prX X).take i) (prX Y) (prX Z)) ∧ Below w3.heap.size w3 wr) (fun _ v _ => 18 - (intOf v).toNat)
  case atStart => exact ⟨0, rfl, Nat.zero_le _, ⟨by simp [prt], .inl ⟨rfl, by simp [prt]⟩⟩, Below.refl _ _⟩
  case round =>
    obtain ⟨i, rfl, hi, hO, hB⟩ := hrel
    go_upto_region 4 with fail
    go_cut [26] (fun s wx => s = .bool (decide (i < (prX X).length)) ∧ wx = wr)
    case first =>
      by_cases h1 : (1 : Int) < ((X.length - 1 : Nat) : Int)
      · go_wp2
        go_meet
        refine ⟨?_, rfl⟩
        simp only [Value.bool.injEq, decide_eq_decide]
        rw [lX]; omega
      · go_wp2
        go_meet
        refine ⟨?_, rfl⟩
        simp only [Value.bool.injEq, decide_eq_decide]
        rw [lX]; omega
    case rest =>
      obtain ⟨rfl, hw⟩ := hcut
      subst hw
      by_cases hi' : i < (prX X).length
      · rw [decide_eq_true hi']
        clear hi
        have HT := Lib.hid (prt_take (prX X) (prX Y) (prX Z) hi')
        go_wp2_with fail
        go_loopw [8, 10] (fun v8 v10 wr => ∃ k : Nat, v10 = .int .i64 k ∧ k ≤ (prX Y).length ∧ Own cb 25 6 w3.heap.size wr v8 (prt ((prX X).take i) (prX Y) (prX Z) ++ row2 (prX X)[i] ((prX Y).take k) (prX Z)) ∧ Below w3.heap.size w3 wr) (fun _ v _ => 18 - (intOf v).toNat)
        case atStart => exact ⟨0, rfl, Nat.zero_le _, by simpa [row2] using hO, hB⟩
        case round =>
          clear hO hB
          obtain ⟨k, rfl, hk, hO, hB⟩ := hrel
          go_upto_region 7 with fail
          go_cut [34] (fun s wx => s = .bool (decide (k < (prX Y).length)) ∧ wx = wr)
          case first =>
            by_cases h1 : (1 : Int) < ((Y.length - 1 : Nat) : Int)
            · go_wp2
              go_meet
              refine ⟨?_, rfl⟩
              simp only [Value.bool.injEq, decide_eq_decide]
              rw [lY]; omega
            · go_wp2
              go_meet
              refine ⟨?_, rfl⟩
              simp only [Value.bool.injEq, decide_eq_decide]
              rw [lY]; omega
          case rest =>
            obtain ⟨rfl, hw⟩ := hcut
            subst hw
            by_cases hk' : k < (prX Y).length
            · rw [decide_eq_true hk']
              clear hk
              have HR := Lib.hid (row2_take (prX X)[i] (prX Y) (prX Z) hk')
              go_wp2_with fail
              go_loopw [8, 11] (fun v8 v11 wr => ∃ m : Nat, v11 = .int .i64 m ∧ m ≤ (prX Z).length ∧ Own cb 25 6 w3.heap.size wr v8 (prt ((prX X).take i) (prX Y) (prX Z) ++ row2 (prX X)[i] ((prX Y).take k) (prX Z) ++ ((prX Z).take m).map fun r => pbox (prX X)[i] (prX Y)[k] r) ∧ Below w3.heap.size w3 wr) (fun _ v _ => 18 - (intOf v).toNat)
              case atStart => exact ⟨0, rfl, Nat.zero_le _, by simpa using hO, hB⟩
              case round =>
                clear hO hB
                obtain ⟨m, rfl, hm, hO, hB⟩ := hrel
                go_upto_region 10 with fail
                go_cut [42] (fun s wx => s = .bool (decide (m < (prX Z).length)) ∧ wx = wr)
                case first =>
                  by_cases h1 : (1 : Int) < ((Z.length - 1 : Nat) : Int)
                  · go_wp2
                    go_meet
                    refine ⟨?_, rfl⟩
                    simp only [Value.bool.injEq, decide_eq_decide]
                    rw [lZ]; omega
                  · go_wp2
                    go_meet
                    refine ⟨?_, rfl⟩
                    simp only [Value.bool.injEq, decide_eq_decide]
                    rw [lZ]; omega
                case rest =>
                  obtain ⟨rfl, hw⟩ := hcut
                  subst hw
                  by_cases hm' : m < (prX Z).length
                  · rw [decide_eq_true hm']
                    clear hm
                    have hB9 := below_dr hB
                    have hOl := prt_bound nX nY nZ i k m (prX X)[i] (prX Y)[k]
                    have HM : Hid (((prX Z).take (m + 1)).map (fun r => pbox (prX X)[i] (prX Y)[k] r) = ((prX Z).take m).map (fun r => pbox (prX X)[i] (prX Y)[k] r) ++ [pbox (prX X)[i] (prX Y)[k] (prX Z)[m]]) := Lib.hid (by rw [List.take_succ_eq_append_getElem hm', List.map_append]; rfl)
                    obtain ⟨ih1, ih2, ie⟩ := prX_at hi' hX
                    have dx := cell_later hB9 (rX i ih1)
                    have dx1 := cell_later hB9 (rX _ ih2)
                    have Hx := Lib.hid ie
                    have Wi : IntKind.i64.wrap ((i : Int) + 1) = (i : Int) + 1 := IntWalk.i64_in _ (by omega)
                    obtain ⟨i1, ei1⟩ : ∃ j, j = min (i + 1) (X.length - 1) := ⟨_, rfl⟩
                    have Mi : min ((i : Int) + 1) ((X.length - 1 : Nat) : Int) = (i1 : Int) := by omega
                    have si0 : (0 : Int) ≤ (i : Int) := by omega
                    have si1 : (i : Int) < (X.length : Int) := by omega
                    have si2 : (0 : Int) ≤ (i1 : Int) := by omega
                    have si3 : (i1 : Int) < (X.length : Int) := by omega
                    simp only [← ei1] at dx1 Hx
                    obtain ⟨xa, exa⟩ : ∃ z, Hid (X[i] = z) := ⟨_, Lib.hid rfl⟩
                    have ti3 : i1 < X.length := by omega
                    obtain ⟨xb, exb⟩ : ∃ z, Hid (X[i1]'ti3 = z) := ⟨_, Lib.hid rfl⟩
                    rw [exa.out] at dx
                    rw [exb.out] at dx1
                    have Kx : Hid ((prX X)[i] = (xa, xb)) := Lib.hid (by rw [Hx.out, exa.out, exb.out])
                    clear ie Hx ei1
                    obtain ⟨kh1, kh2, ke⟩ := prX_at hk' hY
                    have dy := cell_later hB9 (rY k kh1)
                    have dy1 := cell_later hB9 (rY _ kh2)
                    have Hy := Lib.hid ke
                    have Wk : IntKind.i64.wrap ((k : Int) + 1) = (k : Int) + 1 := IntWalk.i64_in _ (by omega)
                    obtain ⟨k1, ek1⟩ : ∃ j, j = min (k + 1) (Y.length - 1) := ⟨_, rfl⟩
                    have Mk : min ((k : Int) + 1) ((Y.length - 1 : Nat) : Int) = (k1 : Int) := by omega
                    have sk0 : (0 : Int) ≤ (k : Int) := by omega
                    have sk1 : (k : Int) < (Y.length : Int) := by omega
                    have sk2 : (0 : Int) ≤ (k1 : Int) := by omega
                    have sk3 : (k1 : Int) < (Y.length : Int) := by omega
                    simp only [← ek1] at dy1 Hy
                    obtain ⟨ya, eya⟩ : ∃ z, Hid (Y[k] = z) := ⟨_, Lib.hid rfl⟩
                    have tk3 : k1 < Y.length := by omega
                    obtain ⟨yb, eyb⟩ : ∃ z, Hid (Y[k1]'tk3 = z) := ⟨_, Lib.hid rfl⟩
                    rw [eya.out] at dy
                    rw [eyb.out] at dy1
                    have Ky : Hid ((prX Y)[k] = (ya, yb)) := Lib.hid (by rw [Hy.out, eya.out, eyb.out])
                    clear ke Hy ek1
                    obtain ⟨mh1, mh2, me⟩ := prX_at hm' hZ
                    have dz := cell_later hB9 (rZ m mh1)
                    have dz1 := cell_later hB9 (rZ _ mh2)
                    have Hz := Lib.hid me
                    have Wm : IntKind.i64.wrap ((m : Int) + 1) = (m : Int) + 1 := IntWalk.i64_in _ (by omega)
                    obtain ⟨m1, em1⟩ : ∃ j, j = min (m + 1) (Z.length - 1) := ⟨_, rfl⟩
                    have Mm : min ((m : Int) + 1) ((Z.length - 1 : Nat) : Int) = (m1 : Int) := by omega
                    have sm0 : (0 : Int) ≤ (m : Int) := by omega
                    have sm1 : (m : Int) < (Z.length : Int) := by omega
                    have sm2 : (0 : Int) ≤ (m1 : Int) := by omega
                    have sm3 : (m1 : Int) < (Z.length : Int) := by omega
                    simp only [← em1] at dz1 Hz
                    obtain ⟨za, eza⟩ : ∃ z, Hid (Z[m] = z) := ⟨_, Lib.hid rfl⟩
                    have tm3 : m1 < Z.length := by omega
                    obtain ⟨zb, ezb⟩ : ∃ z, Hid (Z[m1]'tm3 = z) := ⟨_, Lib.hid rfl⟩
                    rw [eza.out] at dz
                    rw [ezb.out] at dz1
                    have Kz : Hid ((prX Z)[m] = (za, zb)) := Lib.hid (by rw [Hz.out, eza.out, ezb.out])
                    clear me Hz em1
                    have HP : Hid (pbox (prX X)[i] (prX Y)[k] (prX Z)[m] = ⟨xa, ya, za, xb, yb, zb⟩) := Lib.hid (by rw [Kx.out, Ky.out, Kz.out]; rfl)
                    have HEND : Hid (∀ V U, Own cb 25 6 w3.heap.size U V ((prt ((prX X).take i) (prX Y) (prX Z) ++ row2 (prX X)[i] ((prX Y).take k) (prX Z) ++ ((prX Z).take m).map fun r => pbox (prX X)[i] (prX Y)[k] r) ++ [⟨xa, ya, za, xb, yb, zb⟩]) → Own cb 25 6 w3.heap.size U V (prt ((prX X).take i) (prX Y) (prX Z) ++ row2 (prX X)[i] ((prX Y).take k) (prX Z) ++ ((prX Z).take (m + 1)).map fun r => pbox (prX X)[i] (prX Y)[k] r)) := Lib.hid (fun V U h => by rw [HM.out, HP.out, ← List.append_assoc]; exact h)
                    generalize (prt ((prX X).take i) (prX Y) (prX Z) ++ row2 (prX X)[i] ((prX Y).take k) (prX Z) ++ ((prX Z).take m).map fun r => pbox (prX X)[i] (prX Y)[k] r) = O at *
                    clear HM HP Kx Ky Kz
                    go_wp2_with fail
                    refine wp_region_plan 44 [(0, true), (1, true), (2, true), (3, true), (4, true), (5, true), (6, true), (7, true), (8, true), (9, true), (10, true), (11, true), (12, true), (13, true), (14, true), (15, true), (16, true), (17, true), (18, true), (19, true), (20, true), (21, true), (22, true), (23, true), (24, true), (25, true), (26, true), (27, true), (28, true), (29, true), (30, true), (31, true), (32, true), (33, true), (34, true), (35, true), (36, true), (37, true), (38, true), (39, true), (40, true), (41, true), (42, true), (43, false)] (fun W' => W'.cell? ⟨gx, i, none⟩ = some (.int .i64 xa) ∧ W'.cell? ⟨gx, i1, none⟩ = some (.int .i64 xb) ∧ W'.cell? ⟨gy, k, none⟩ = some (.int .i64 ya) ∧ W'.cell? ⟨gy, k1, none⟩ = some (.int .i64 yb) ∧ W'.cell? ⟨gz, m, none⟩ = some (.int .i64 za) ∧ W'.cell? ⟨gz, m1, none⟩ = some (.int .i64 zb)) (by kernel_rfl) (by kernel_rfl) (fun _ _ d _ _ h => by cases d <;> exact h) ⟨dx, dx1, dy, dy1, dz, dz1⟩ ?_
                    simp only [List.filterMap_cons, List.filterMap_nil, List.getElem?_cons_zero, List.getElem?_cons_succ, Option.map_some, List.drop_succ_cons, List.drop_zero]
                    iterate 43 (refine wpPlan_still (v := ?_) (Or.inl ⟨by rfl, ?_⟩) ?_; rotate_left; (focus (intro W hW; (try dsimp only at hW); go_split_ands; go_simp; try with_reducible rfl)); try simp only [Act.put, List.setIfInBounds_toArray, List.set_cons_zero, List.set_cons_succ])
                    refine wpPlan_only (fun K hK => ?_)
                    try go_simp
                    refine hK.out _ _ ⟨cell_later (al1 _ _) dx, cell_later (al1 _ _) dx1, cell_later (al1 _ _) dy, cell_later (al1 _ _) dy1, cell_later (al1 _ _) dz, cell_later (al1 _ _) dz1⟩ ?_
                    clear hK K
                    try simp only [Act.put, List.setIfInBounds_toArray, List.set_cons_zero, List.set_cons_succ]
                    refine wpPlan_end ?_
                    have hsz := hB.size
                    go_wp2_with (at_builtin; refine wpList_append_own_at _ rfl _ _ 40 rfl w3.heap.size 25 i0 _ 6 48 Try.underlying40 hinf hz0 hz1 hz2 rfl (by decide) _ O.length (O.flatMap cb) rfl (own_on hO (below_dr (al (Below.refl wc.heap.size wc) (.cells #[.int .i64 xa, .int .i64 ya, .int .i64 za, .int .i64 xb, .int .i64 yb, .int .i64 zb] 25)))) ⟨_, 0, none⟩ 1 1 [.int .i64 xa, .int .i64 ya, .int .i64 za, .int .i64 xb, .int .i64 yb, .int .i64 zb] rfl rfl (World.news_of_block (cs := #[.int .i64 xa, .int .i64 ya, .int .i64 za, .int .i64 xb, .int .i64 yb, .int .i64 zb]) (t := 25) (fr := (0, 0)) (heap_alloc_new wc _)) (by simp [Value.oneCell']) (by unfold maxLen; omega) (by omega) (by simp; omega) ?_)
                    intro v' w5 p1 p2 p3 p4
                    have ob := below_dr (al (Below.refl wc.heap.size wc) (.cells #[.int .i64 xa, .int .i64 ya, .int .i64 za, .int .i64 xb, .int .i64 yb, .int .i64 zb] 25))
                    have O5 := HEND.out _ _ (own_cons (y := ⟨xa, ya, za, xb, yb, zb⟩) p1)
                    have B5 : Below w3.heap.size w3 w5 := (hB.trans (ob.mono hsz)).grown p2 (by have := ob.size; omega) (fun j hj => (World.ownsRow.lt hO _ hj).1)
                    clear p1 p2 p3 p4 ob hO
                    go_wp2
                    go_roundw
                    · exact ⟨m + 1, rfl, hm', O5, B5⟩
                    · simp [intOf]; omega
                  · rw [decide_eq_false hm']
                    have e : (prX Z).take m = prX Z := List.take_of_length_le (by omega)
                    rw [e] at hO
                    go_wp2
                    refine ⟨⟨k + 1, rfl, hk', by rw [HR.out, ← List.append_assoc]; exact hO, hB⟩, by simp [intOf]; omega⟩
            · rw [decide_eq_false hk']
              have e : (prX Y).take k = prX Y := List.take_of_length_le (by omega)
              rw [e] at hO
              go_wp2
              refine ⟨⟨i + 1, rfl, hi', by rw [HT.out]; exact hO, hB⟩, by simp [intOf]; omega⟩
      · rw [decide_eq_false hi']
        have e : (prX X).take i = prX X := List.take_of_length_le (by omega)
        rw [e] at hO
        go_wp2
        go_ret
        exact ⟨_, rfl, Own.mono hO HBw.size, belows HBw hB⟩
end Go.Proofs.Ytffigpkkdljaiaa
