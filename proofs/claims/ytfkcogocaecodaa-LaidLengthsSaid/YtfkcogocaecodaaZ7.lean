/- The hull of points. Laid bars are near; Mark, Count; legs of a path. Legs and hulls of laid bars. The balance. Balance. slices.Equal at boxes and findings; the example. The example of the chapter. -/
import Derived.Test.YtfkcogocaecodaaZ5
import Derived.Test.YtfkcogocaecodaaZ1
import Derived.Test.YtfkcogocaecodaaZ3
import Derived.Test.YtfkcogocaecodaaZ6
import Derived.Deep.CutBlock
import Derived.Laws.StructEq
namespace Go.Proofs.Ytfkcogocaecodaa
open Go.ChangeShapes Go.WideShapes Go.ChangeAt Go.RowKit
set_option linter.unusedVariables false
set_option linter.unusedSimpArgs false

theorem bxp_near {p : Pt} (h : inB 1048576 p = true) : (bxp p).ok = true := by
  have := inB_bd.1 h
  unfold Pt.bd at this
  unfold bxp Bx.ok vB sdV
  simp only [Bool.and_eq_true, decide_eq_true_eq]
  omega
set_option maxHeartbeats 8000000 in
set_option maxRecDepth 100000 in
theorem hull_41 (q0 : Option Addr) (cap0 n : Nat) (PS : List Pt) (w : World) (hP0 : Slp w q0 PS) (hlen0 : PS.length = n + 1) (hn6 : n ≤ 6) (hnear : PS.all (inB 1048576) = true) :
    Calls Try.prog 41 #[.slice q0 (n + 1) cap0] w fun e w' => e = .returned (.tuple #[(hullL (PS.map bxp)).val, .int .i64 0]) ∧ Below w.heap.size w w' := by
  have E := (Env.nil w).add w.heap.size 54 #[.int .i64 0, .int .i64 0, .int .i64 0, .int .i64 0, .int .i64 0, .int .i64 0] rfl
  have hall : (PS.map bxp).all Bx.ok = true := by
    rw [List.all_eq_true]
    intro x hx
    obtain ⟨p, hp, rfl⟩ := List.mem_map.1 hx
    exact bxp_near (List.all_eq_true.1 hnear p hp)
  have hPL := Lib.hid hlen0
  have HALL := Lib.hid hall
  have HPc := Lib.hid hP0
  clear hall hlen0 hnear
  have C := E.cells
  simp [BC, CF] at C
  obtain ⟨RES, hRES⟩ : ∃ R : Bx, Hid (hullL (PS.map bxp) = R) := ⟨_, Lib.hid rfl⟩
  rw [hRES.out]
  unfold Bx.val
  obtain ⟨i0, hinf, hz0, hz1, hz2⟩ := info_parts info42
  have hzw : (w.alloc (.cells #[.int .i64 0, .int .i64 0, .int .i64 0, .int .i64 0, .int .i64 0, .int .i64 0] 54)).heap.size = w.heap.size + 1 := World.size_alloc _ _
  have BB := al1 w (.cells #[.int .i64 0, .int .i64 0, .int .i64 0, .int .i64 0, .int .i64 0, .int .i64 0] 54)
  go_enter Try.func41, Try.ntmps41
  go_wp2
  generalize w.alloc (.cells #[.int .i64 0, .int .i64 0, .int .i64 0, .int .i64 0, .int .i64 0, .int .i64 0] 54) = w1 at *
  have HZW := Lib.hid hzw
  clear hzw
  go_loopw [4, 9] (fun v6 v20 wr => ∃ (k : Nat) (F : Value), v20 = .int .i64 k ∧ F = v6 ∧ k ≤ n + 1 ∧ Own cb 54 6 w1.heap.size wr F ((PS.take k).map bxp) ∧ Env w wr [⟨w.heap.size, 54, #[.int .i64 0, .int .i64 0, .int .i64 0, .int .i64 0, .int .i64 0, .int .i64 0]⟩] ∧ Below w1.heap.size w1 wr) (fun _ v _ => n + 1 - (intOf v).toNat)
  case atStart => exact ⟨0, _, rfl, rfl, Nat.zero_le _, ⟨rfl, .inl ⟨rfl, rfl⟩⟩, E, Below.refl _ _⟩
  case round =>
    clear E C hP0
    obtain ⟨k, F, rfl, rfl, hk, hO, E, B⟩ := hrel
    have C := E.cells
    simp [BC, CF] at C
    by_cases hlt : k < n + 1
    · have g1 : decide ((k : Int) < ((n + 1 : Nat) : Int)) = true := by simp; omega
      have g2 : decide ((k : Int) < (n : Int) + 1) = true := by simp; omega
      have W1 : IntKind.i64.wrap ((k : Int) + 1) = ((k + 1 : Nat) : Int) := by rw [IntWalk.i64_in _ (by omega)]; omega
      have p1 : (0 : Int) ≤ (k : Int) := by omega
      have p2 : (k : Int) < (n : Int) + 1 := by omega
      have p3 : k < n + 1 := hlt
      obtain ⟨a, rfl, a0, a1, a2⟩ := HPc.out.at_ k (by rw [hPL.out]; omega)
      obtain ⟨⟨x0, y0, z0⟩, hP2⟩ : ∃ p : Pt, Hid (PS[k]'(by rw [hPL.out]; omega) = p) := ⟨_, Lib.hid rfl⟩
      rw [hP2.out] at a0 a1 a2
      dsimp only at a0 a1 a2
      replace a0 := cell_later (belows BB B) a0
      replace a1 := cell_later (belows BB B) a1
      replace a2 := cell_later (belows BB B) a2
      have hl : Hid ((PS.take (k + 1)).map bxp = (PS.take k).map bxp ++ [⟨x0, y0, z0, x0, y0, z0⟩]) := Lib.hid (by rw [List.take_succ_eq_append_getElem (by rw [hPL.out]; omega), List.map_append, List.map_cons, hP2.out]; rfl)
      have hlen : ((PS.take k).map bxp).length = k := by rw [List.length_map, List.length_take, hPL.out]; omega
      generalize (PS.take k).map bxp = O at *
      have E5 := E.more (.cells #[.int .i64 x0, .int .i64 y0, .int .i64 z0] 24)
      have O5 := own_on hO (al1 wr (.cells #[.int .i64 x0, .int .i64 y0, .int .i64 z0] 24))
      have B5 := belows B (al1 wr (.cells #[.int .i64 x0, .int .i64 y0, .int .i64 z0] 24))
      have s5 := B.size
      have hn : ((wr.alloc (.cells #[.int .i64 x0, .int .i64 y0, .int .i64 z0] 24)).alloc (.cells #[.int .i64 x0, .int .i64 y0, .int .i64 z0, .int .i64 x0, .int .i64 y0, .int .i64 z0] 54)).heap[wr.heap.size + 1]? = some (.cells #[.int .i64 x0, .int .i64 y0, .int .i64 z0, .int .i64 x0, .int .i64 y0, .int .i64 z0] 54) := by
        have h := heap_alloc_new (wr.alloc (.cells #[.int .i64 x0, .int .i64 y0, .int .i64 z0] 24)) (.cells #[.int .i64 x0, .int .i64 y0, .int .i64 z0, .int .i64 x0, .int .i64 y0, .int .i64 z0] 54)
        rwa [show (wr.alloc (.cells #[.int .i64 x0, .int .i64 y0, .int .i64 z0] 24)).heap.size = wr.heap.size + 1 by simp] at h
      have HN := Lib.hid hn
      have E6 := E5.more (.cells #[.int .i64 x0, .int .i64 y0, .int .i64 z0, .int .i64 x0, .int .i64 y0, .int .i64 z0] 54)
      have hOO := own_on O5 (al1 _ (.cells #[.int .i64 x0, .int .i64 y0, .int .i64 z0, .int .i64 x0, .int .i64 y0, .int .i64 z0] 54))
      have B6 := belows B5 (al1 _ (.cells #[.int .i64 x0, .int .i64 y0, .int .i64 z0, .int .i64 x0, .int .i64 y0, .int .i64 z0] 54))
      have s6 := B6.size
      clear hO E5 O5 B5 hn
      go_wp2_with (at_builtin; refine wpList_append_own_at _ rfl _ _ 41 rfl w1.heap.size 54 i0 _ 6 48 Try.underlying41 hinf hz0 hz1 hz2 rfl (by decide) _ O.length (O.flatMap cb) rfl hOO ⟨_, 0, none⟩ 1 1 [.int .i64 x0, .int .i64 y0, .int .i64 z0, .int .i64 x0, .int .i64 y0, .int .i64 z0] rfl rfl (World.news_of_block (cs := #[.int .i64 x0, .int .i64 y0, .int .i64 z0, .int .i64 x0, .int .i64 y0, .int .i64 z0]) (t := 54) (fr := (0, 0)) HN.out) (by simp [Value.oneCell']) (by unfold maxLen; omega) (by omega) s6 ?_)
      intro v' w6 r1 r2 r3 r4
      have O7 : Own cb 54 6 w1.heap.size w6 v' (O ++ [⟨x0, y0, z0, x0, y0, z0⟩]) := own_snoc (by rw [hlen]; exact r1)
      have hge := fun q (hq : _ = some q) => (World.ownsRow.lt hOO q hq).1
      have B7 : Below w1.heap.size w1 w6 := B6.grown r2 s6 (fun q hq => hge q hq)
      have E7 : Env w w6 [⟨w.heap.size, 54, #[.int .i64 0, .int .i64 0, .int .i64 0, .int .i64 0, .int .i64 0, .int .i64 0]⟩] := E6.grow r2 (fun q hq => ⟨fun y hy => by have := hge q hq; have := HZW.out; simp at hy; rcases hy with rfl; dsimp only; omega, by have := hge q hq; have := HZW.out; omega⟩)
      clear r1 r2 r3 r4 hOO E6 E B6
      go_wp2
      go_roundw
      · exact ⟨k + 1, _, rfl, rfl, hlt, (by rw [hl.out]; exact O7), E7, B7⟩
      · simp [intOf]; omega
    · have g1 : decide ((k : Int) < ((n + 1 : Nat) : Int)) = false := by simp; omega
      have g2 : decide ((k : Int) < (n : Int) + 1) = false := by simp; omega
      obtain rfl : k = n + 1 := by omega
      rw [List.take_of_length_le (by rw [hPL.out]; omega)] at hO
      obtain ⟨gs, cs, rfl, hSl, hcs⟩ := sl_own (n := n) hO (by rw [List.length_map, hPL.out]) (by unfold maxLen; omega)
      obtain ⟨x, l, hxl⟩ : ∃ x l, Hid (PS.map bxp = x :: l) := by
        cases h : PS.map bxp with
        | nil => have := congrArg List.length h; rw [List.length_map, hPL.out] at this; simp at this
        | cons x l => exact ⟨x, l, Lib.hid rfl⟩
      have hln : l.length = n := by
        have := congrArg List.length hxl.out
        rw [List.length_map, hPL.out] at this; simp at this; omega
      rw [hxl.out] at hSl
      have hRES2 := hRES.out
      rw [hxl.out] at hRES2
      have h35 := fun W h => Hull_ok ⟨gs, 0, none⟩ x l cs W h (by rw [← hxl.out]; exact HALL.out) (by omega)
      rw [hln] at h35
      clear hO hln
      rw [show l.foldl hullB x = RES from hRES2] at h35
      unfold Bx.val at h35
      go_wp2_with (go_at_call 22; (with_reducible refine (h35 _ hSl).mono ?_); rintro X w7 ⟨rfl, hb⟩; replace E := E.on hb; replace C := E.cells; simp [BC, CF] at C; clear hb)
      refine bodyPost_ret (v := .tuple #[.agg #[.int .i64 RES.a, .int .i64 RES.b, .int .i64 RES.c, .int .i64 RES.d, .int .i64 RES.e, .int .i64 RES.f], .int .i64 0]) (by simp [results, Try.results41, go_sem, C]) rfl ⟨rfl, ?_⟩
      exact (E.six 0 rfl).1
end Go.Proofs.Ytfkcogocaecodaa
namespace Go.Proofs.Ytfkcogocaecodaa
open Go.ChangeShapes Go.WideShapes Go.ChangeAt Go.RowKit
set_option linter.unusedVariables false
set_option linter.unusedSimpArgs false

theorem mid_bd {a s k n M : Int} (h0 : -M ≤ a ∧ a ≤ M) (h1 : -M ≤ a + s * n ∧ a + s * n ≤ M) (hk : 0 ≤ k) (hn : k ≤ n) : -M ≤ a + s * k ∧ a + s * k ≤ M := by
  rcases Int.le_total 0 s with hs | hs
  · have e1 : 0 ≤ s * k := Int.mul_nonneg hs hk
    have e2 : s * k ≤ s * n := Int.mul_le_mul_of_nonneg_left hn hs
    omega
  · have e1 : s * k ≤ 0 := Int.mul_nonpos_of_nonpos_of_nonneg hs hk
    have e2 : s * n ≤ s * k := by
      have := Int.mul_le_mul_of_nonneg_left hn (show 0 ≤ -s by omega)
      rw [Int.neg_mul, Int.neg_mul] at this; omega
    omega
theorem bpts_near {b : Bar} {r : Rn} (hf : fitsB b r = true) {k : Nat} (hk : (k : Int) < r.ct) : (bpts b r k).all (inB 1048576) = true := by
  unfold fitsB at hf
  simp only [Bool.and_eq_true] at hf
  have h0 := List.all_eq_true.1 hf.2.2.2.2.2.1
  have h1 := List.all_eq_true.1 hf.2.2.2.2.2.2
  refine List.all_eq_true.2 fun p hp => inB_bd.2 ?_
  unfold bpts mvd at hp
  obtain ⟨x, hx, rfl⟩ := List.mem_map.1 hp
  have a0 := inB_bd.1 (h0 x hx)
  have a1 := inB_bd.1 (h1 _ (List.mem_map.2 ⟨x, hx, rfl⟩))
  unfold Pt.bd adp scp at *
  dsimp only at *
  refine ⟨?_, ?_, ?_⟩
  · exact mid_bd ⟨a0.1.1, a0.1.2⟩ ⟨a1.1.1, a1.1.2⟩ (by omega) (by omega)
  · exact mid_bd ⟨a0.2.1.1, a0.2.1.2⟩ ⟨a1.2.1.1, a1.2.1.2⟩ (by omega) (by omega)
  · exact mid_bd ⟨a0.2.2.1, a0.2.2.2⟩ ⟨a1.2.2.1, a1.2.2.2⟩ (by omega) (by omega)
theorem lay_mem {l : List Bar} {rs : List Rn} (hv : validR l rs = true) {x : ByteArray × List Pt} (hx : x ∈ lay l rs) : ∃ r ∈ rs, ∃ b, barOf l r.mark = some b ∧ barB b = true ∧ fitsB b r = true ∧ ∃ k : Nat, (k : Int) < r.ct ∧ x = (r.mark, bpts b r k) := by
  obtain ⟨hvl, -, hfit, -⟩ := validR_and hv
  unfold lay at hx
  obtain ⟨r, hr, hx⟩ := List.mem_flatMap.1 hx
  obtain ⟨b, hb, hf⟩ := fitsM_bar (hfit r hr)
  unfold layR at hx
  rw [hb] at hx
  dsimp only at hx
  unfold rpaths at hx
  obtain ⟨k, hk, rfl⟩ := List.mem_map.1 hx
  have := List.mem_range.1 hk
  exact ⟨r, hr, b, hb, (barOf_ok hvl hb).1, hf, k, by omega, rfl⟩
theorem lay_near {l : List Bar} {rs : List Rn} (hv : validR l rs = true) {x : ByteArray × List Pt} (hx : x ∈ lay l rs) : x.2.all (inB 1048576) = true ∧ 2 ≤ x.2.length ∧ x.2.length ≤ 7 := by
  obtain ⟨r, hr, b, hb, hbb, hf, k, hk, rfl⟩ := lay_mem hv hx
  refine ⟨bpts_near hf hk, ?_, ?_⟩
  · dsimp only; rw [bpts_len]; have := nl_pos (barB_and hbb).1; omega
  · dsimp only; rw [bpts_len]; exact pts_le hbb
theorem layAt_mem {l : List Bar} {rs : List Rn} {i : Int} {x : ByteArray × List Pt} (h : layAt l rs i = some x) : x ∈ lay l rs ∧ 0 ≤ i ∧ (lay l rs)[i.toNat]? = some x := by
  unfold layAt at h
  split at h
  · rename_i h0; exact ⟨List.mem_of_getElem? h, h0, h⟩
  · cases h
/-- The legs of a path. -/
def lg (P : List Pt) (i : Nat) : Bx := hullL (((P.drop i).take 2).map bxp)
def lgsP (P : List Pt) : List Bx := (List.range (P.length - 1)).map (lg P)
theorem lgsP_len (P : List Pt) : (lgsP P).length = P.length - 1 := by simp [lgsP]
theorem lgsP_step {P : List Pt} {k : Nat} (hk : k < P.length - 1) : (lgsP P).take (k + 1) = (lgsP P).take k ++ [lg P k] := by
  rw [List.take_succ_eq_append_getElem (by rw [lgsP_len]; exact hk)]
  simp [lgsP]
theorem slp_sub {B g cap n : Nat} {w : World} {P : List Pt} (h : Own pc 24 3 B w (.slice (some ⟨g, 0, none⟩) n cap) P) (hn : P.length = n) (i m : Nat) : Slp w (some ⟨g, i * 3, none⟩) ((P.drop i).take m) := by
  have hm : n ≤ maxLen := by
    obtain ⟨hl, ⟨h0, -⟩ | ⟨g', cap', cur, e', hB, hg, hc, hm, hs, ht⟩⟩ := h
    · cases h0
    · omega
  refine ⟨by simp; omega, fun k hk => ⟨_, rfl, ?_⟩⟩
  have hkn : i + k < P.length := by simp at hk; omega
  obtain ⟨⟨c0, c1, c2⟩, -⟩ := own_cells h hn (k := i + k) hkn
  have e : ((P.drop i).take m)[k] = P[i + k] := by simp
  rw [e]
  have ea : Addr.add ⟨g, i * 3, none⟩ (k * 3) = ⟨g, (i + k) * 3, none⟩ := by simp only [Addr.add]; (split <;> simp) <;> omega
  rw [ea]
  exact ⟨c0, c1, c2⟩
theorem lay_mark {l : List Bar} {rs : List Rn} (hR : ∀ r ∈ rs, r.Ok) {x : ByteArray × List Pt} (hx : x ∈ lay l rs) : x.1.size ≤ maxLen := by
  unfold lay at hx
  obtain ⟨r, hr, hx⟩ := List.mem_flatMap.1 hx
  unfold layR at hx
  split at hx
  · unfold rpaths at hx
    obtain ⟨k, hk, rfl⟩ := List.mem_map.1 hx
    exact (hR r hr).nm
  · cases hx
set_option maxHeartbeats 8000000 in
set_option maxRecDepth 100000 in
theorem Count_27 (p : Option Addr) (l : List Bar) (cap : Nat) (q : Option Addr) (rs : List Rn) (capr : Nat) (w : World) (hS : Slb w p l cap) (hR : Slr w q rs capr) : Calls Try.prog 27 #[.slice p l.length cap, .slice q rs.length capr] w fun e w' => e = .returned (.tuple #[.int .i64 (if validR l rs then totR rs else 0), .int .i64 (if validR l rs then 0 else 1)]) ∧ Below w.heap.size w w' := by
  have h26 := fun W (h : Below w.heap.size w W) => Valid_26 p l cap q rs capr W (hS.on h) (hR.on h)
  cases hv : validR l rs
  · rw [hv] at h26
    simp only [Bool.false_eq_true, if_false]
    clear hv
    go_enter Try.func27, Try.ntmps27
    go_wp2_with (go_at_call 26; (with_reducible refine (h26 _ (Below.refl _ _)).mono ?_); rintro X wq ⟨rfl, hb⟩)
    exact bodyPost_ret (v := .tuple #[.int .i64 0, .int .i64 1]) (by simp [results, Try.results27, go_sem]) rfl ⟨rfl, hb⟩
  · rw [hv] at h26
    obtain ⟨-, h60, hfit, -⟩ := validR_and hv
    have h53 := fun W (h : Below w.heap.size w W) => total_53 q rs capr W (hR.on h) h60 fun r hr => fitsM_ct (hfit r hr)
    simp only [if_true]
    clear hv hfit
    generalize totR rs = tt at *
    go_enter Try.func27, Try.ntmps27
    go_wp2_with (first
      | (go_at_call 26; (with_reducible refine (h26 _ (Below.refl _ _)).mono ?_); rintro X wq ⟨rfl, hb⟩)
      | (go_at_call 53; (with_reducible refine (h53 _ hb).mono ?_); rintro X wz ⟨rfl, hb2⟩))
    exact bodyPost_ret (v := .tuple #[.int .i64 tt, .int .i64 0]) (by simp [results, Try.results27, go_sem]) rfl ⟨rfl, belows hb hb2⟩
/-- What Mark answers. -/
def markC (l : List Bar) (rs : List Rn) (i : Int) : ByteArray × Int := if validR l rs then (match layAt l rs i with
  | some x => (x.1, 0)
  | none => (⟨#[]⟩, 2)) else (⟨#[]⟩, 1)
set_option maxHeartbeats 8000000 in
set_option maxRecDepth 100000 in
theorem Mark_no (p : Option Addr) (l : List Bar) (cap : Nat) (q : Option Addr) (rs : List Rn) (capr : Nat) (i : Int) (w : World) (hS : Slb w p l cap) (hR : Slr w q rs capr) (hv : validR l rs = false) : Calls Try.prog 16 #[.slice p l.length cap, .slice q rs.length capr, .int .i64 i] w fun e w' => e = .returned (.tuple #[.string ⟨#[]⟩, .int .i64 1]) ∧ Below w.heap.size w w' := by
  have h40 := find_no p l cap q rs capr i w hS hR hv
  go_enter Try.func16, Try.ntmps16
  go_upto_region 2 with (go_at_call 40; (with_reducible refine h40.mono ?_); rintro X wq ⟨rfl, hb⟩)
  have C := ((Env.nil wq).add wq.heap.size 83 #[.string ⟨#[]⟩, .slice none 0 0] rfl).cells
  simp [BC, CF] at C
  go_wp2
  exact bodyPost_ret (v := .tuple #[.string ⟨#[]⟩, .int .i64 1]) (by simp [results, Try.results16, go_sem]) rfl ⟨rfl, al hb _⟩
set_option maxHeartbeats 8000000 in
set_option maxRecDepth 100000 in
theorem Mark_out (p : Option Addr) (l : List Bar) (cap : Nat) (q : Option Addr) (rs : List Rn) (capr : Nat) (i : Int) (w : World) (hS : Slb w p l cap) (hR : Slr w q rs capr) (hv : validR l rs = true) (hn : layAt l rs i = none) : Calls Try.prog 16 #[.slice p l.length cap, .slice q rs.length capr, .int .i64 i] w fun e w' => e = .returned (.tuple #[.string ⟨#[]⟩, .int .i64 2]) ∧ Below w.heap.size w w' := by
  have h40 := find_40 p l cap q rs capr i w hS hR hv
  unfold FP at h40
  rw [hn] at h40
  dsimp only at h40
  clear hn hv
  go_enter Try.func16, Try.ntmps16
  go_upto_region 2 with (go_at_call 40; (with_reducible refine h40.mono ?_); rintro X wq ⟨rfl, hb⟩)
  have C := ((Env.nil wq).add wq.heap.size 83 #[.string ⟨#[]⟩, .slice none 0 0] rfl).cells
  simp [BC, CF] at C
  go_wp2
  exact bodyPost_ret (v := .tuple #[.string ⟨#[]⟩, .int .i64 2]) (by simp [results, Try.results16, go_sem]) rfl ⟨rfl, al hb _⟩
set_option maxHeartbeats 8000000 in
set_option maxRecDepth 100000 in
theorem Mark_ok (p : Option Addr) (l : List Bar) (cap : Nat) (q : Option Addr) (rs : List Rn) (capr : Nat) (i : Int) (w : World) (hS : Slb w p l cap) (hR : Slr w q rs capr) (hv : validR l rs = true) (x : ByteArray × List Pt) (hn : layAt l rs i = some x) : Calls Try.prog 16 #[.slice p l.length cap, .slice q rs.length capr, .int .i64 i] w fun e w' => e = .returned (.tuple #[.string x.1, .int .i64 0]) ∧ Below w.heap.size w w' := by
  have h40 := find_40 p l cap q rs capr i w hS hR hv
  unfold FP at h40
  rw [hn] at h40
  dsimp only at h40
  clear hn hv
  obtain ⟨m, pts⟩ := x
  dsimp only at *
  generalize pts.length = np at *
  go_enter Try.func16, Try.ntmps16
  go_upto_region 2 with (go_at_call 40; (with_reducible refine h40.mono ?_); rintro X wq ⟨⟨q2, c2, rfl, -⟩, hb⟩)
  have C := ((Env.nil wq).add wq.heap.size 83 #[.string m, .slice q2 np c2] rfl).cells
  simp [BC, CF] at C
  go_wp2
  exact bodyPost_ret (v := .tuple #[.string m, .int .i64 0]) (by simp [results, Try.results16, go_sem]) rfl ⟨rfl, al hb _⟩
theorem Mark_16 (p : Option Addr) (l : List Bar) (cap : Nat) (q : Option Addr) (rs : List Rn) (capr : Nat) (i : Int) (w : World) (hS : Slb w p l cap) (hR : Slr w q rs capr) : Calls Try.prog 16 #[.slice p l.length cap, .slice q rs.length capr, .int .i64 i] w fun e w' => e = .returned (.tuple #[.string (markC l rs i).1, .int .i64 (markC l rs i).2]) ∧ Below w.heap.size w w' := by
  unfold markC
  cases hv : validR l rs
  · exact Mark_no p l cap q rs capr i w hS hR hv
  · cases hn : layAt l rs i with
    | none => exact Mark_out p l cap q rs capr i w hS hR hv hn
    | some x => exact Mark_ok p l cap q rs capr i w hS hR hv x hn
end Go.Proofs.Ytfkcogocaecodaa
namespace Go.Proofs.Ytfkcogocaecodaa
open Go.ChangeShapes Go.WideShapes Go.ChangeAt Go.RowKit
set_option linter.unusedVariables false
set_option linter.unusedSimpArgs false

/-- What Legs answers. -/
def legsC (l : List Bar) (rs : List Rn) (i : Int) : List Bx × Int := if validR l rs then (match layAt l rs i with
  | some x => (lgsP x.2, 0)
  | none => ([], 2)) else ([], 1)
def hullC (l : List Bar) (rs : List Rn) (i : Int) : Bx × Int := if validR l rs then (match layAt l rs i with
  | some x => (hullL (x.2.map bxp), 0)
  | none => (zB, 2)) else (zB, 1)
set_option maxHeartbeats 8000000 in
set_option maxRecDepth 100000 in
theorem Legs15_no (p : Option Addr) (l : List Bar) (cap : Nat) (q : Option Addr) (rs : List Rn) (capr : Nat) (i : Int) (w : World) (hS : Slb w p l cap) (hR : Slr w q rs capr) (hv : validR l rs = false) : Calls Try.prog 15 #[.slice p l.length cap, .slice q rs.length capr, .int .i64 i] w fun e w' => e = .returned (.tuple #[.slice none 0 0, .int .i64 1]) ∧ Below w.heap.size w w' := by
  have h40 := find_no p l cap q rs capr i w hS hR hv
  
  go_enter Try.func15, Try.ntmps15
  go_upto_region 2 with (go_at_call 40; (with_reducible refine h40.mono ?_); rintro X wq ⟨rfl, hb⟩)
  have C := ((Env.nil wq).add wq.heap.size 83 #[.string ⟨#[]⟩, .slice none 0 0] rfl).cells
  simp [BC, CF] at C
  go_wp2
  exact bodyPost_ret (v := .tuple #[.slice none 0 0, .int .i64 1]) (by simp [results, Try.results15, go_sem]) rfl ⟨rfl, al hb _⟩
set_option maxHeartbeats 8000000 in
set_option maxRecDepth 100000 in
theorem Hull23_no (p : Option Addr) (l : List Bar) (cap : Nat) (q : Option Addr) (rs : List Rn) (capr : Nat) (i : Int) (w : World) (hS : Slb w p l cap) (hR : Slr w q rs capr) (hv : validR l rs = false) : Calls Try.prog 23 #[.slice p l.length cap, .slice q rs.length capr, .int .i64 i] w fun e w' => e = .returned (.tuple #[zB.val, .int .i64 1]) ∧ Below w.heap.size w w' := by
  have h40 := fun W (h : Below w.heap.size w W) => find_no p l cap q rs capr i W (hS.on h) (hR.on h) hv
  have E := (Env.nil w).add w.heap.size 54 #[.int .i64 0, .int .i64 0, .int .i64 0, .int .i64 0, .int .i64 0, .int .i64 0] rfl
  go_enter Try.func23, Try.ntmps23
  go_upto_region 2 with (go_at_call 40; (with_reducible refine (h40 _ (envb E)).mono ?_); rintro X wq ⟨rfl, hb⟩; replace E := E.on hb)
  replace E := E.add _ 83 #[.string ⟨#[]⟩, .slice none 0 0] rfl
  have C := E.cells
  simp [BC, CF] at C
  go_wp2
  refine bodyPost_ret (v := .tuple #[.agg #[.int .i64 0, .int .i64 0, .int .i64 0, .int .i64 0, .int .i64 0, .int .i64 0], .int .i64 1]) (by simp [results, Try.results23, go_sem, C]) rfl ⟨rfl, ?_⟩
  exact (E.six 1 rfl).1
set_option maxHeartbeats 8000000 in
set_option maxRecDepth 100000 in
theorem Legs15_out (p : Option Addr) (l : List Bar) (cap : Nat) (q : Option Addr) (rs : List Rn) (capr : Nat) (i : Int) (w : World) (hS : Slb w p l cap) (hR : Slr w q rs capr) (hv : validR l rs = true) (hn : layAt l rs i = none) : Calls Try.prog 15 #[.slice p l.length cap, .slice q rs.length capr, .int .i64 i] w fun e w' => e = .returned (.tuple #[.slice none 0 0, .int .i64 2]) ∧ Below w.heap.size w w' := by
  have h40 := find_40 p l cap q rs capr i w hS hR hv
  unfold FP at h40
  rw [hn] at h40
  dsimp only at h40
  clear hn hv
  
  go_enter Try.func15, Try.ntmps15
  go_upto_region 2 with (go_at_call 40; (with_reducible refine h40.mono ?_); rintro X wq ⟨rfl, hb⟩)
  have C := ((Env.nil wq).add wq.heap.size 83 #[.string ⟨#[]⟩, .slice none 0 0] rfl).cells
  simp [BC, CF] at C
  go_wp2
  exact bodyPost_ret (v := .tuple #[.slice none 0 0, .int .i64 2]) (by simp [results, Try.results15, go_sem]) rfl ⟨rfl, al hb _⟩
set_option maxHeartbeats 8000000 in
set_option maxRecDepth 100000 in
theorem Hull23_out (p : Option Addr) (l : List Bar) (cap : Nat) (q : Option Addr) (rs : List Rn) (capr : Nat) (i : Int) (w : World) (hS : Slb w p l cap) (hR : Slr w q rs capr) (hv : validR l rs = true) (hn : layAt l rs i = none) : Calls Try.prog 23 #[.slice p l.length cap, .slice q rs.length capr, .int .i64 i] w fun e w' => e = .returned (.tuple #[zB.val, .int .i64 2]) ∧ Below w.heap.size w w' := by
  have h40 := fun W (h : Below w.heap.size w W) => find_40 p l cap q rs capr i W (hS.on h) (hR.on h) hv
  unfold FP at h40
  simp only [hn] at h40
  clear hn hv
  have E := (Env.nil w).add w.heap.size 54 #[.int .i64 0, .int .i64 0, .int .i64 0, .int .i64 0, .int .i64 0, .int .i64 0] rfl
  go_enter Try.func23, Try.ntmps23
  go_upto_region 2 with (go_at_call 40; (with_reducible refine (h40 _ (envb E)).mono ?_); rintro X wq ⟨rfl, hb⟩; replace E := E.on hb)
  replace E := E.add _ 83 #[.string ⟨#[]⟩, .slice none 0 0] rfl
  have C := E.cells
  simp [BC, CF] at C
  go_wp2
  refine bodyPost_ret (v := .tuple #[.agg #[.int .i64 0, .int .i64 0, .int .i64 0, .int .i64 0, .int .i64 0, .int .i64 0], .int .i64 2]) (by simp [results, Try.results23, go_sem, C]) rfl ⟨rfl, ?_⟩
  exact (E.six 1 rfl).1
set_option maxHeartbeats 8000000 in
set_option maxRecDepth 100000 in
theorem Hull_ok23 (p : Option Addr) (l : List Bar) (cap : Nat) (q : Option Addr) (rs : List Rn) (capr : Nat) (i : Int) (w : World) (hS : Slb w p l cap) (hR : Slr w q rs capr) (hv : validR l rs = true) (x : ByteArray × List Pt) (hn : layAt l rs i = some x) : Calls Try.prog 23 #[.slice p l.length cap, .slice q rs.length capr, .int .i64 i] w fun e w' => e = .returned (.tuple #[(hullL (x.2.map bxp)).val, .int .i64 0]) ∧ Below w.heap.size w w' := by
  have h40 := fun W (h : Below w.heap.size w W) => find_40 p l cap q rs capr i W (hS.on h) (hR.on h) hv
  unfold FP at h40
  simp only [hn] at h40
  obtain ⟨hnear, h2, h7⟩ := lay_near hv (layAt_mem hn).1
  clear hn hv
  obtain ⟨m, pts⟩ := x
  dsimp only at *
  have E := (Env.nil w).add w.heap.size 54 #[.int .i64 0, .int .i64 0, .int .i64 0, .int .i64 0, .int .i64 0, .int .i64 0] rfl
  obtain ⟨n, hpn⟩ : ∃ n, pts.length = n + 1 := ⟨pts.length - 1, by omega⟩
  have h41 := fun q0 c0 W (h : Slp W q0 pts) => hull_41 q0 c0 n pts W h hpn (by omega) hnear
  rw [hpn] at h40
  obtain ⟨RES, hRES⟩ : ∃ R : Bx, Hid (hullL (pts.map bxp) = R) := ⟨_, Lib.hid rfl⟩
  rw [hRES.out] at h41 ⊢
  unfold Bx.val at h41 ⊢
  clear hpn h2 h7 hnear
  go_enter Try.func23, Try.ntmps23
  go_upto_region 2 with (go_at_call 40; (with_reducible refine (h40 _ (envb E)).mono ?_); rintro X wq ⟨⟨q2, c2, rfl, hO⟩, hb⟩; replace E := E.on hb)
  replace E := E.add _ 83 #[.string m, .slice q2 (n + 1) c2] rfl
  have hP : Slp _ q2 pts := (by
    obtain ⟨q3, c3, e, k⟩ := own_slp (own_on hO (al1 wq (.cells #[.string m, .slice q2 (n + 1) c2] 83)))
    simp only [Value.slice.injEq] at e
    obtain ⟨rfl, -, -⟩ := e
    exact k)
  have C := E.cells
  simp [BC, CF] at C
  clear hO
  go_wp2_with (go_at_call 41; (with_reducible refine (h41 _ _ _ hP).mono ?_); rintro X w2 ⟨rfl, hb2⟩; replace E := E.on hb2; replace C := E.cells; simp [BC, CF] at C)
  refine bodyPost_ret (v := .tuple #[.agg #[.int .i64 RES.a, .int .i64 RES.b, .int .i64 RES.c, .int .i64 RES.d, .int .i64 RES.e, .int .i64 RES.f], .int .i64 0]) (by simp [results, Try.results23, go_sem, C]) rfl ⟨rfl, ?_⟩
  exact (E.six 1 rfl).1
theorem Hull_23 (p : Option Addr) (l : List Bar) (cap : Nat) (q : Option Addr) (rs : List Rn) (capr : Nat) (i : Int) (w : World) (hS : Slb w p l cap) (hR : Slr w q rs capr) : Calls Try.prog 23 #[.slice p l.length cap, .slice q rs.length capr, .int .i64 i] w fun e w' => e = .returned (.tuple #[(hullC l rs i).1.val, .int .i64 (hullC l rs i).2]) ∧ Below w.heap.size w w' := by
  unfold hullC
  cases hv : validR l rs
  · exact Hull23_no p l cap q rs capr i w hS hR hv
  · cases hn : layAt l rs i with
    | none => exact Hull23_out p l cap q rs capr i w hS hR hv hn
    | some x => exact Hull_ok23 p l cap q rs capr i w hS hR hv x hn
set_option maxHeartbeats 8000000 in
set_option maxRecDepth 100000 in
theorem Legs_ok15 (p : Option Addr) (l : List Bar) (cap : Nat) (q : Option Addr) (rs : List Rn) (capr : Nat) (i : Int) (w : World) (hS : Slb w p l cap) (hR : Slr w q rs capr) (hv : validR l rs = true) (x : ByteArray × List Pt) (hn : layAt l rs i = some x) : Calls Try.prog 15 #[.slice p l.length cap, .slice q rs.length capr, .int .i64 i] w fun e w' => ∃ v, e = .returned (.tuple #[v, .int .i64 0]) ∧ Own cb 54 6 w.heap.size w' v (lgsP x.2) ∧ Below w.heap.size w w' := by
  have h40 := find_40 p l cap q rs capr i w hS hR hv
  unfold FP at h40
  rw [hn] at h40
  dsimp only at h40
  obtain ⟨hnear, h2, h7⟩ := lay_near hv (layAt_mem hn).1
  clear hn hv
  obtain ⟨m, PS⟩ := x
  dsimp only at *
  obtain ⟨n, hpn⟩ : ∃ n, PS.length = n + 1 := ⟨PS.length - 1, by omega⟩
  have hpn1 := Lib.hid hpn
  have hn6 : n ≤ 6 := by omega
  have h41 : Hid (∀ (k : Nat) (c0 : Nat) (g : Nat) W, k < n → Slp W (some ⟨g, k * 3, none⟩) ((PS.drop k).take 2) → Calls Try.prog 41 #[.slice (some ⟨g, k * 3, none⟩) 2 c0] W fun e w' => e = .returned (.tuple #[(lg PS k).val, .int .i64 0]) ∧ Below W.heap.size W w') := Lib.hid fun k c0 g W hk h => by
    have hl : ((PS.drop k).take 2).length = 1 + 1 := by simp; omega
    exact hull_41 (some ⟨g, k * 3, none⟩) c0 1 _ W h hl (by omega) (List.all_eq_true.2 fun y hy => List.all_eq_true.1 hnear y (List.mem_of_mem_drop (List.mem_of_mem_take hy)))
  have hLL : Hid ((lgsP PS).length = n) := Lib.hid (by rw [lgsP_len]; omega)
  have hStep : Hid (∀ k, k < n → (lgsP PS).take (k + 1) = (lgsP PS).take k ++ [lg PS k]) := Lib.hid fun k hk => lgsP_step (by omega)
  rw [hpn] at h40
  clear hnear h2 h7 hpn
  obtain ⟨i0, hinf, hz0, hz1, hz2⟩ := info_parts info42
  go_enter Try.func15, Try.ntmps15
  go_upto_region 2 with (go_at_call 40; (with_reducible refine h40.mono ?_); rintro X wq ⟨⟨q2, c2, rfl, hO⟩, hb⟩)
  obtain ⟨g, c3, e, -⟩ := Own.fn hO (by rw [hpn1.out]; omega)
  simp only [Value.slice.injEq] at e
  obtain ⟨rfl, -, rfl⟩ := e
  have hcp : n + 1 ≤ c2 := by
    obtain ⟨hl, ⟨h0, -⟩ | ⟨g', cap', cur, e', hB, hg, hn, hm, hs, ht⟩⟩ := hO
    · cases h0
    · simp only [Value.slice.injEq] at e'
      have := hpn1.out
      omega
  have E := (Env.nil wq).add wq.heap.size 83 #[.string m, .slice (some ⟨g, 0, none⟩) (n + 1) c2] rfl
  have hO1 := own_on hO (al1 wq (.cells #[.string m, .slice (some ⟨g, 0, none⟩) (n + 1) c2] 83))
  have hw1 := al hb (.cells #[.string m, .slice (some ⟨g, 0, none⟩) (n + 1) c2] 83)
  have W0 : IntKind.i64.wrap (((n + 1 : Nat) : Int) - 1) = (n : Int) := by rw [IntWalk.i64_in _ (by omega)]; omega
  have W0' : IntKind.i64.wrap ((n : Int) + 1 - 1) = (n : Int) := by rw [IntWalk.i64_in _ (by omega)]; omega
  have HO1 := Lib.hid hO1
  have HW1 := Lib.hid hw1
  clear hO hO1 h40 hb hw1
  have HZ : (wq.alloc (.cells #[.string m, .slice (some ⟨g, 0, none⟩) (n + 1) c2] 83)).heap.size = wq.heap.size + 1 := World.size_alloc _ _
  generalize wq.alloc (.cells #[.string m, .slice (some ⟨g, 0, none⟩) (n + 1) c2] 83) = w1 at *
  have HZh := Lib.hid HZ
  clear HZ
  have C := E.cells
  simp [BC, CF] at C
  go_wp2
  go_loopw [10, 28] (fun v10 v28 wr => ∃ (k : Nat) (F : Value), v28 = .int .i64 k ∧ F = v10 ∧ k ≤ n ∧ Own cb 54 6 w1.heap.size wr F ((lgsP PS).take k) ∧ Env wq wr [⟨wq.heap.size, 83, #[.string m, .slice (some ⟨g, 0, none⟩) (n + 1) c2]⟩] ∧ Below w1.heap.size w1 wr) (fun _ v _ => n - (intOf v).toNat)
  case atStart => exact ⟨0, _, rfl, rfl, Nat.zero_le _, Fm.own_nil _ _ _ _ _, E, Below.refl _ _⟩
  case round =>
    clear E C
    obtain ⟨k, F, rfl, rfl, hk, hO, E, B⟩ := hrel
    have C := E.cells
    simp [BC, CF] at C
    by_cases hlt : k < n
    · have g1 : decide ((k : Int) < (n : Int)) = true := by simp [hlt]
      have W1 : IntKind.i64.wrap ((k : Int) + 1) = ((k + 1 : Nat) : Int) := by rw [IntWalk.i64_in _ (by omega)]; omega
      have W2 : IntKind.i64.wrap ((k : Int) + 2) = (k : Int) + 2 := by rw [IntWalk.i64_in _ (by omega)]
      have p1 : (0 : Int) ≤ (k : Int) := by omega
      have p2 : (k : Int) ≤ (k : Int) + 2 := by omega
      have p3 : (k : Int) + 2 ≤ (c2 : Int) := by omega
      have h41k := h41.out k (c2 - k) g wr hlt (slp_sub (own_on HO1.out B) hpn1.out k 2)
      have hlen : ((lgsP PS).take k).length = k := by rw [List.length_take, hLL.out]; omega
      have hst := hStep.out k hlt
      generalize lg PS k = Y at *
      obtain ⟨a, b, c, d, e, f⟩ := Y
      have HSt := Lib.hid hst
      clear hst
      unfold Bx.val at h41k
      dsimp only at h41k
      generalize (lgsP PS).take k = O at *
      go_upto_region 9 with (go_at_call 41; (with_reducible refine h41k.mono ?_); rintro X w5 ⟨rfl, hb5⟩)
      have E5 := (E.on hb5).add w5.heap.size 54 #[.int .i64 a, .int .i64 b, .int .i64 c, .int .i64 d, .int .i64 e, .int .i64 f] rfl
      have O5 := own_on (own_on hO hb5) (al1 w5 (.cells #[.int .i64 a, .int .i64 b, .int .i64 c, .int .i64 d, .int .i64 e, .int .i64 f] 54))
      have B5 := al (belows B hb5) (.cells #[.int .i64 a, .int .i64 b, .int .i64 c, .int .i64 d, .int .i64 e, .int .i64 f] 54)
      have hz5 : (w5.alloc (.cells #[.int .i64 a, .int .i64 b, .int .i64 c, .int .i64 d, .int .i64 e, .int .i64 f] 54)).heap.size = w5.heap.size + 1 := World.size_alloc _ _
      clear hO E C
      generalize w5.alloc (.cells #[.int .i64 a, .int .i64 b, .int .i64 c, .int .i64 d, .int .i64 e, .int .i64 f] 54) = w6 at *
      generalize w5.heap.size = g5 at *
      have C := E5.cells
      simp [BC, CF] at C
      have hn := Has.new_ w6 54 #[.int .i64 a, .int .i64 b, .int .i64 c, .int .i64 d, .int .i64 e, .int .i64 f]
      have HN := Lib.hid hn
      have E6 := Lib.hid (E5.more (.cells #[.int .i64 a, .int .i64 b, .int .i64 c, .int .i64 d, .int .i64 e, .int .i64 f] 54))
      have hOO := own_on O5 (al1 w6 (.cells #[.int .i64 a, .int .i64 b, .int .i64 c, .int .i64 d, .int .i64 e, .int .i64 f] 54))
      have B6 := al B5 (.cells #[.int .i64 a, .int .i64 b, .int .i64 c, .int .i64 d, .int .i64 e, .int .i64 f] 54)
      have s6 := B6.size
      have hge := fun q (hq : _ = some q) => (World.ownsRow.lt hOO q hq).1
      have HL := Lib.hid (And.intro hz5 (And.intro hge (E5.lt 0 (by simp))))
      clear O5 B5 hn E5 hz5 hge hb5
      go_wp2_with (at_builtin; refine wpList_append_own_at _ rfl _ _ 41 rfl w1.heap.size 54 i0 _ 6 48 Try.underlying41 hinf hz0 hz1 hz2 rfl (by decide) _ O.length (O.flatMap cb) rfl hOO ⟨_, 0, none⟩ 1 1 [.int .i64 a, .int .i64 b, .int .i64 c, .int .i64 d, .int .i64 e, .int .i64 f] rfl rfl (World.news_of_block (cs := #[.int .i64 a, .int .i64 b, .int .i64 c, .int .i64 d, .int .i64 e, .int .i64 f]) (t := 54) (fr := (0, 0)) HN.out) (by simp [Value.oneCell']) (by unfold maxLen; omega) (by omega) s6 ?_)
      intro v' w7 r1 r2 r3 r4
      have O7 : Own cb 54 6 w1.heap.size w7 v' (O ++ [⟨a, b, c, d, e, f⟩]) := own_snoc (by rw [hlen]; exact r1)
      obtain ⟨hz5, hge, hlt0⟩ := HL.out
      have B7 : Below w1.heap.size w1 w7 := B6.grown r2 s6 (fun q hq => hge q hq)
      have E7 : Env wq w7 [⟨wq.heap.size, 83, #[.string m, .slice (some ⟨g, 0, none⟩) (n + 1) c2]⟩] := (E6.out.tail).grow r2 (fun q hq => ⟨fun y hy => by have := hge q hq; have := HZh.out; simp at hy; rcases hy with rfl; dsimp only; omega, by have := hge q hq; have := HZh.out; omega⟩)
      clear r1 r2 r3 r4 hOO E6 B6 HL hge
      go_wp2
      go_roundw
      · exact ⟨k + 1, _, rfl, rfl, hlt, (by rw [HSt.out]; exact O7), E7, B7⟩
      · simp [intOf]; omega
    · have g1 : decide ((k : Int) < (n : Int)) = false := by simp; omega
      rw [List.take_of_length_le (by rw [hLL.out]; omega)] at hO
      go_wp2
      refine bodyPost_ret (v := .tuple #[F, .int .i64 0]) (by simp [results, Try.results15, go_sem]) rfl ⟨F, rfl, Own.mono hO ?_, HW1.out.trans (Below.less B ?_)⟩
      · have := HW1.out.size; omega
      · have := HW1.out.size; omega
theorem Legs_15 (p : Option Addr) (l : List Bar) (cap : Nat) (q : Option Addr) (rs : List Rn) (capr : Nat) (i : Int) (w : World) (hS : Slb w p l cap) (hR : Slr w q rs capr) : Calls Try.prog 15 #[.slice p l.length cap, .slice q rs.length capr, .int .i64 i] w fun e w' => ∃ v, e = .returned (.tuple #[v, .int .i64 (legsC l rs i).2]) ∧ Own cb 54 6 w.heap.size w' v (legsC l rs i).1 ∧ Below w.heap.size w w' := by
  unfold legsC
  cases hv : validR l rs
  · exact (Legs15_no p l cap q rs capr i w hS hR hv).mono fun e w' h => ⟨_, h.1, Fm.own_nil _ _ _ _ _, h.2⟩
  · cases hn : layAt l rs i with
    | none => exact (Legs15_out p l cap q rs capr i w hS hR hv hn).mono fun e w' h => ⟨_, h.1, Fm.own_nil _ _ _ _ _, h.2⟩
    | some x => exact Legs_ok15 p l cap q rs capr i w hS hR hv x hn
end Go.Proofs.Ytfkcogocaecodaa
namespace Go.Proofs.Ytfkcogocaecodaa
open Go.ChangeShapes Go.WideShapes Go.ChangeAt Go.RowKit Go.Maps
set_option linter.unusedVariables false
set_option linter.unusedSimpArgs false

def mkG (g : Bar → Value) (l : List Bar) : ByteArray → Option Value := l.foldl (fun f b => fun x => if x = b.mark then some (g b) else f x) (fun _ => none)
theorem mkG_take (g : Bar → Value) {l : List Bar} {k : Nat} (h : k < l.length) : mkG g (l.take (k + 1)) = fun x => if x = l[k].mark then some (g l[k]) else mkG g (l.take k) x := by
  unfold mkG
  rw [List.take_succ_eq_append_getElem h, List.foldl_append]; rfl
theorem mkG_valid (g : Bar → Value) {l : List Bar} (hv : validL l = true) (m : ByteArray) : mkG g l m = (barOf l m).map g := by
  have key : ∀ k, k ≤ l.length → mkG g (l.take k) m = if h : fnd m l < k ∧ fnd m l < l.length then some (g (l[fnd m l]'h.2)) else none := by
    intro k
    induction k with
    | zero => intro _; rw [dif_neg (by omega)]; rfl
    | succ k ih =>
      intro hk
      have hkl : k < l.length := by omega
      rw [mkG_take g hkl]
      dsimp only
      by_cases e : m = l[k].mark
      · have := (okAt_of hv hkl).2
        rw [← e] at this
        rw [if_pos e, dif_pos (by omega)]
        congr 2
        simp only [this]
      · rw [if_neg e, ih (by omega)]
        have hne : fnd m l ≠ k := fun e2 => by
          have h3 : fnd m l < l.length := by omega
          have := eqN_iff.1 (fnd_at h3)
          apply e
          rw [← this]; simp only [e2]
        by_cases h4 : fnd m l < k ∧ fnd m l < l.length
        · rw [dif_pos h4, dif_pos (by omega)]
        · rw [dif_neg h4, dif_neg (by omega)]
  have := key l.length (Nat.le_refl _)
  rw [List.take_length] at this
  rw [this]
  unfold barOf
  by_cases h : fnd m l < l.length
  · rw [dif_pos ⟨h, h⟩, List.getElem?_eq_getElem h]; rfl
  · rw [dif_neg (by omega), List.getElem?_eq_none (by omega)]; rfl
theorem Smap.more {w : World} {b n m : Nat} {f : ByteArray → Option Value} (h : Smap w b n f) (hm : n ≤ m) : Smap w b m f := by
  obtain ⟨D, ⟨es, clock, hb, F, hs, hD⟩, h1, h2⟩ := h
  exact ⟨D, ⟨es, clock, hb, F, by omega, hD⟩, h1, h2⟩
/-- How many bars of a mark are laid. -/
def laidN (rs : List Rn) (m : ByteArray) : Int := ((rs.filter fun r => decide (r.mark = m)).map (·.ct)).sum
theorem laidN_take {rs : List Rn} {j : Nat} (hj : j < rs.length) (m : ByteArray) : laidN (rs.take (j + 1)) m = laidN (rs.take j) m + if rs[j].mark = m then rs[j].ct else 0 := by
  unfold laidN
  rw [List.take_succ_eq_append_getElem hj, List.filter_append, List.map_append, List.sum_append]
  by_cases h : rs[j].mark = m <;> simp [h]
theorem laidN_bd : ∀ {rs : List Rn} (m : ByteArray), (∀ r ∈ rs, 1 ≤ r.ct ∧ r.ct ≤ 1000) → 0 ≤ laidN rs m ∧ laidN rs m ≤ rs.length * 1000
  | [], m, h => by simp [laidN]
  | r :: rs, m, h => by
    have ih := laidN_bd (rs := rs) m fun x hx => h x (by simp [hx])
    have h1 := h r (by simp)
    unfold laidN at *
    rw [List.filter_cons, List.length_cons]
    split
    · rw [List.map_cons, List.sum_cons]; omega
    · omega
def missV (b : Bar) (rs : List Rn) : Option Value := if b.count - laidN rs b.mark = 0 then none else some (.int .i64 (b.count - laidN rs b.mark))
/-- What is missing of each mark that is not balanced. -/
def missF (l : List Bar) (rs : List Rn) (m : ByteArray) : Option Value := match barOf l m with
  | some b => missV b rs
  | none => none
theorem smap_row {w : World} {b n : Nat} {f : ByteArray → Option Value} {B : Nat} {e : TypeId} {s : Nat} {v : Value} {m : Nat} {xs : List Value} (h : Smap w b n f) (ho : w.ownsRow B e s v m xs) : v.ownBlock ≠ some b := by
  intro e1
  obtain ⟨D, ⟨es, clock, hw, F, hs, hD⟩, h1, h2⟩ := h
  obtain ⟨hl, ⟨rfl, -⟩ | ⟨g, cap, cur, rfl, hB, hg, r⟩⟩ := ho
  · cases e1
  · simp only [Value.ownBlock, Option.some.injEq] at e1
    subst e1
    rw [hw] at hg
    cases hg
structure Fg where
  kind : Int
  name : ByteArray
deriving DecidableEq
def fc (x : Fg) : List Value := [.int .i64 x.kind, .string x.name]
theorem fcl (x : Fg) : (fc x).length = 2 := rfl
def balO (rs : List Rn) (b : Bar) : Option Fg := if laidN rs b.mark < b.count then some ⟨1, b.mark⟩ else if b.count < laidN rs b.mark then some ⟨2, b.mark⟩ else none
/-- The balance. -/
def bal (l : List Bar) (rs : List Rn) : List Fg := l.filterMap (balO rs)
theorem bal_take {l : List Bar} {rs : List Rn} {k : Nat} (hk : k < l.length) : bal (l.take (k + 1)) rs = bal (l.take k) rs ++ (balO rs l[k]).toList := by
  unfold bal
  rw [List.take_succ_eq_append_getElem hk, List.filterMap_append]
  cases h : balO rs l[k] <;> simp [h]
theorem bal_le (l : List Bar) (rs : List Rn) : (bal l rs).length ≤ l.length := List.length_filterMap_le _ _
theorem missF_zero {l : List Bar} (hv : validL l = true) (m : ByteArray) : (barOf l m).map (fun b => Value.int .i64 b.count) = missF l [] m := by
  unfold missF
  cases h : barOf l m with
  | none => rfl
  | some b =>
    have hc := (barB_and (barOf_ok hv h).1).2.2.2.2.2
    have e : laidN [] b.mark = 0 := rfl
    simp only [Option.map_some, missV, e]
    rw [if_neg (by omega), Int.sub_zero]
theorem missF_at {l : List Bar} (hv : validL l = true) {m : ByteArray} {b : Bar} (h : barOf l m = some b) (rs : List Rn) : (missF l rs m).getD (.int .i64 0) = .int .i64 (b.count - laidN rs m) := by
  have e := (barOf_ok hv h).2.2
  unfold missF
  rw [h]
  dsimp only
  unfold missV
  rw [e]
  split
  · rename_i h0; rw [h0]; rfl
  · rfl
theorem missF_step {l : List Bar} (hv : validL l = true) {rs : List Rn} {j : Nat} (hj : j < rs.length) {b : Bar} (h : barOf l rs[j].mark = some b) (x : ByteArray) :
    missF l (rs.take (j + 1)) x = if x = rs[j].mark then (if b.count - laidN (rs.take j) rs[j].mark - rs[j].ct = 0 then none else some (.int .i64 (b.count - laidN (rs.take j) rs[j].mark - rs[j].ct))) else missF l (rs.take j) x := by
  by_cases e : x = rs[j].mark
  · subst e
    rw [if_pos rfl]
    unfold missF
    rw [h]
    dsimp only
    unfold missV
    rw [(barOf_ok hv h).2.2, laidN_take hj, if_pos rfl, Int.sub_sub]
  · rw [if_neg e]
    unfold missF
    cases h2 : barOf l x with
    | none => rfl
    | some b2 =>
      dsimp only
      unfold missV
      have ez : (if rs[j].mark = x then rs[j].ct else 0) = 0 := if_neg (fun e2 => e e2.symm)
      rw [(barOf_ok hv h2).2.2, laidN_take hj, ez, Int.add_zero]
theorem zero3 (w : World) : (zeroValue 3).run Try.prog w = .ok (.int .i64 0) w := by kernel_rfl
theorem info71 : (Try.prog.info? 71).map (fun i => (i.zero, i.size, i.bytes)) = some (some (.agg #[.int .i64 0, .string ⟨#[]⟩]), 2, 24) := by kernel_rfl
end Go.Proofs.Ytfkcogocaecodaa
namespace Go.Proofs.Ytfkcogocaecodaa
open Go.ChangeShapes Go.WideShapes Go.ChangeAt Go.RowKit Go.Maps
set_option linter.unusedVariables false
set_option linter.unusedSimpArgs false

set_option maxHeartbeats 8000000 in
set_option maxRecDepth 100000 in
theorem Bal_no (p : Option Addr) (l : List Bar) (cap : Nat) (q : Option Addr) (rs : List Rn) (capr : Nat) (w : World) (hS : Slb w p l cap) (hR : Slr w q rs capr) (hv : validR l rs = false) : Calls Try.prog 28 #[.slice p l.length cap, .slice q rs.length capr] w fun e w' => e = .returned (.tuple #[.slice none 0 0, .int .i64 1]) ∧ Below w.heap.size w w' := by
  have h26 := Valid_26 p l cap q rs capr w hS hR
  rw [hv] at h26
  go_enter Try.func28, Try.ntmps28
  go_wp2_with (go_at_call 26; (with_reducible refine h26.mono ?_); rintro X wq ⟨rfl, hb⟩)
  exact bodyPost_ret (v := .tuple #[.slice none 0 0, .int .i64 1]) (by simp [results, Try.results28, go_sem]) rfl ⟨rfl, hb⟩
set_option maxHeartbeats 8000000 in
set_option maxRecDepth 100000 in
theorem Bal_ok (p : Option Addr) (l : List Bar) (cap : Nat) (q : Option Addr) (rs : List Rn) (capr : Nat) (w : World) (hS : Slb w p l cap) (hR : Slr w q rs capr) (hv : validR l rs = true) : Calls Try.prog 28 #[.slice p l.length cap, .slice q rs.length capr] w fun e w' => ∃ v, e = .returned (.tuple #[v, .int .i64 0]) ∧ Own fc 71 2 w.heap.size w' v (bal l rs) ∧ Below w.heap.size w w' := by
  have h26 := Valid_26 p l cap q rs capr w hS hR
  rw [hv] at h26
  obtain ⟨hvl, h60, hfit, -⟩ := validR_and hv
  have HV := Lib.hid hvl
  have HF := Lib.hid hfit
  have HL := Lib.hid (validL_le hvl)
  have HO := Lib.hid hS.ok
  have HR := Lib.hid h60
  have hmm := @run_makeMap Try.prog
  clear hv hvl hfit
  obtain ⟨i0, hinf, hz0, hz1, hz2⟩ := info_parts info71
  go_enter Try.func28, Try.ntmps28
  go_upto_region 4 with (go_at_call 26; (with_reducible refine h26.mono ?_); rintro X w0 ⟨rfl, hb0⟩)
  have M0 := Smap.made w0
  have B0 := al1 w0 (.map #[] 0)
  have hmb : w.heap.size ≤ w0.heap.size := hb0.size
  have HB0 := Lib.hid hb0
  clear hb0 h26
  generalize w0.alloc (.map #[] 0) = wz at *
  have BW : Below w.heap.size w wz := belows HB0.out B0
  generalize w0.heap.size = mb at *
  clear B0
  go_wp2
  go_loopw [24] (fun v wr => ∃ k : Nat, v = .int .i64 k ∧ k ≤ l.length ∧ Smap wr mb k (mkG (fun b => .int .i64 b.count) (l.take k)) ∧ Below w.heap.size w wr) (fun v _ => l.length - (intOf v).toNat)
  case atStart => exact ⟨0, rfl, Nat.zero_le _, M0, BW⟩
  case round =>
    clear M0 BW
    obtain ⟨k, rfl, hk, M, hB⟩ := hrel
    have hle := HL.out
    by_cases hlt : k < l.length
    · have g1 : decide ((k : Int) < (l.length : Int)) = true := by simp [hlt]
      have W1 : IntKind.i64.wrap ((k : Int) + 1) = ((k + 1 : Nat) : Int) := by rw [IntWalk.i64_in _ (by omega)]; omega
      have HM := Lib.hid (mkG_take (fun b => .int .i64 b.count) hlt)
      have hnm := (HO.out _ (List.getElem_mem hlt)).nm
      obtain ⟨a, rfl, c0, c1, c2, c3, c4⟩ := (hS.on hB).at_ k hlt
      have E := (Env.nil wr).add wr.heap.size 49 l[k].cs rfl
      rw [bcs] at E
      obtain ⟨-, C0, C1, C2, C3, C4⟩ := s_b5 E
      obtain ⟨w5, R5, M5, hg5⟩ := (M.on (envb E)).put l[k].mark (.int .i64 l[k].count) hnm (by omega) Try.underlying73
      have HM5 := Lib.hid M5
      have HB5 : Hid (Below w.heap.size w w5) := Lib.hid ((belows hB (envb E)).grown hg5 (belows hB (envb E)).size (fun j hj => by cases hj; omega))
      clear M5 M hg5
      generalize l[k].mark = mk at *
      generalize l[k].size = sz at *
      generalize l[k].count = ct at *
      generalize l[k].code = cd at *
      generalize l[k].ds.length = dl at *
      generalize l[k].cap = dc at *
      generalize l[k].p = dp at *
      go_wp2
      exact ⟨⟨k + 1, rfl, hlt, (by rw [HM.out]; exact HM5.out), HB5.out⟩, by simp [intOf]; omega⟩
    · have g1 : decide ((k : Int) < (l.length : Int)) = false := by simp; omega
      rw [List.take_of_length_le (by omega)] at M
      have M1 : Smap wr mb 60 (missF l []) := (M.more (by omega)).cong fun x => by rw [mkG_valid _ HV.out, missF_zero HV.out]
      have HB1 := Lib.hid hB
      clear M hB
      go_wp2
      go_loopw [36] (fun v wr => ∃ j : Nat, v = .int .i64 j ∧ j ≤ rs.length ∧ Smap wr mb (60 + j) (missF l (rs.take j)) ∧ Below w.heap.size w wr) (fun v _ => rs.length - (intOf v).toNat)
      case atStart => exact ⟨0, rfl, Nat.zero_le _, M1, HB1.out⟩
      case round =>
        clear M1
        obtain ⟨j, rfl, hj, M, hB⟩ := hrel
        by_cases hltj : j < rs.length
        · have g2 : decide ((j : Int) < (rs.length : Int)) = true := by simp [hltj]
          have W1 : IntKind.i64.wrap ((j : Int) + 1) = ((j + 1 : Nat) : Int) := by rw [IntWalk.i64_in _ (by omega)]; omega
          obtain ⟨a, rfl, h0, h1, h2, h3, h4, h5, h6, h7, h8, h9⟩ := (hR.on hB).at_ j hltj
          have hrm := List.getElem_mem hltj
          have hnm := (hR.ok _ hrm).nm
          obtain ⟨b, hb, hf⟩ := fitsM_bar (HF.out _ hrm)
          have hcb := (barB_and (barOf_ok HV.out hb).1).2.2.2.2.2
          have hcr := (fitsB_and hf).2.1
          have hlb := laidN_bd (rs := rs.take j) rs[j].mark fun x hx => fitsM_ct (HF.out x (List.mem_of_mem_take hx))
          have hlt60 : (rs.take j).length ≤ 60 := by have := HR.out; simp; omega
          obtain ⟨dd, hdd⟩ : ∃ z : Int, z = b.count - laidN (rs.take j) rs[j].mark - rs[j].ct := ⟨_, rfl⟩
          have hst := missF_step HV.out hltj hb
          simp only [← hdd] at hst
          have HSt := Lib.hid hst
          clear hst
          have R1 := (M.on (al1 wr (.cells rs[j].cs 30))).look rs[j].mark hnm Try.underlying73 (zero3 _)
          rw [missF_at HV.out hb] at R1
          have W2 : IntKind.i64.wrap (b.count - laidN (rs.take j) rs[j].mark - rs[j].ct) = dd := by rw [hdd]; exact IntWalk.i64_in _ (by omega)
          have E := (Env.nil wr).add wr.heap.size 30 rs[j].cs rfl
          have H30 := Has.new_ wr 30 rs[j].cs
          have hml := M.lt
          have hR60 := HR.out
          obtain ⟨w5, R5, M5, hg5⟩ := (M.on (al1 wr (.cells rs[j].cs 30))).put rs[j].mark (.int .i64 dd) hnm (by omega) Try.underlying73
          have R6 := M5.look rs[j].mark hnm Try.underlying73 (zero3 _)
          rw [if_pos rfl] at R6
          simp only [Option.getD_some] at R6
          have C5 := (H30.grown_ hg5 (by simp; omega)).read 0
          have BB := al hB (.cells rs[j].cs 30)
          have B5 : Below w.heap.size w w5 := BB.grown hg5 BB.size (fun k hk => by cases hk; omega)
          have C := E.cells
          rw [rcs] at R1 R5 C C5 hg5
          simp [BC, CF] at C
          simp only [List.getElem?_toArray, List.getElem?_cons_zero] at C5
          have HM5 := Lib.hid (And.intro M5 B5)
          clear hb hf hcb hcr hlb hlt60 M M5 B5 BB E H30 hml hR60 hg5 hdd
          generalize b.count - laidN (rs.take j) rs[j].mark = D at *
          generalize rs[j].ct = ct at *
          generalize rs[j].mark = rm at *
          generalize rs[j].tn.x = tx at *
          generalize rs[j].tn.y = ty at *
          generalize rs[j].at_.x = ax at *
          generalize rs[j].at_.y = ay at *
          generalize rs[j].at_.z = az at *
          generalize rs[j].st.x = sx at *
          generalize rs[j].st.y = sy at *
          generalize rs[j].st.z = sz at *
          by_cases hd : dd = 0
          · have g3 : (dd == 0) = true := by simp [hd]
            obtain ⟨w6, R7, M6, hg6⟩ := HM5.out.1.drop rm hnm Try.underlying73 0
            have HM6 : Hid (Smap w6 mb (60 + (j + 1)) (missF l (rs.take (j + 1))) ∧ Below w.heap.size w w6) := Lib.hid ⟨(M6.cong fun x => by
              rw [HSt.out x]
              by_cases e : x = rm
              · rw [if_pos e, if_pos e, if_pos hd]
              · rw [if_neg e, if_neg e, if_neg e]), HM5.out.2.grown hg6 HM5.out.2.size (fun k hk => by cases hk; omega)⟩
            clear M6 hg6 hd
            go_wp2
            exact ⟨⟨j + 1, rfl, hltj, HM6.out.1, HM6.out.2⟩, by simp [intOf]; omega⟩
          · have g3 : (dd == 0) = false := by simpa using hd
            have HM6 : Hid (Smap w5 mb (60 + (j + 1)) (missF l (rs.take (j + 1))) ∧ Below w.heap.size w w5) := Lib.hid ⟨(HM5.out.1.cong fun x => by
              rw [HSt.out x]
              by_cases e : x = rm
              · rw [if_pos e, if_pos e, if_neg hd]
              · rw [if_neg e, if_neg e]), HM5.out.2⟩
            clear hd
            go_wp2
            exact ⟨⟨j + 1, rfl, hltj, HM6.out.1, HM6.out.2⟩, by simp [intOf]; omega⟩
        · have g2 : decide ((j : Int) < (rs.length : Int)) = false := by simp; omega
          rw [List.take_of_length_le (by omega)] at M
          have HM2 := Lib.hid (M.more (show 60 + j ≤ 120 by have := HR.out; omega))
          have HB2 := Lib.hid hB
          clear M hB
          go_wp2
          go_loopw [11, 58] (fun v11 v58 wr => ∃ (k : Nat) (F : Value), v58 = .int .i64 k ∧ F = v11 ∧ k ≤ l.length ∧ Own fc 71 2 w.heap.size wr F (bal (l.take k) rs) ∧ Smap wr mb 120 (missF l rs) ∧ Below w.heap.size w wr) (fun _ v _ => l.length - (intOf v).toNat)
          case atStart => exact ⟨0, _, rfl, rfl, Nat.zero_le _, Fm.own_nil _ _ _ _ _, HM2.out, HB2.out⟩
          case round =>
            obtain ⟨k, F, rfl, rfl, hk, hO, M, hB⟩ := hrel
            have hle := HL.out
            by_cases hlt : k < l.length
            · have g1 : decide ((k : Int) < (l.length : Int)) = true := by simp [hlt]
              have W1 : IntKind.i64.wrap ((k : Int) + 1) = ((k + 1 : Nat) : Int) := by rw [IntWalk.i64_in _ (by omega)]; omega
              have HT := Lib.hid (bal_take (rs := rs) hlt)
              have hnm := (HO.out _ (List.getElem_mem hlt)).nm
              have hlen : (bal (l.take k) rs).length ≤ 60 := by have := bal_le (l.take k) rs; simp at this; omega
              have hfn := (okAt_of HV.out hlt).2
              have hbo : barOf l l[k].mark = some l[k] := by unfold barOf; rw [hfn]; exact List.getElem?_eq_getElem hlt
              obtain ⟨a, rfl, c0, c1, c2, c3, c4⟩ := (hS.on hB).at_ k hlt
              have E := (Env.nil wr).add wr.heap.size 49 l[k].cs rfl
              rw [bcs] at E
              obtain ⟨-, C0, C1, C2, C3, C4⟩ := s_b5 E
              have R1 := (M.on (envb E)).look2 l[k].mark hnm Try.underlying73 (zero3 _)
              have hmf : missF l rs l[k].mark = missV l[k] rs := by unfold missF; rw [hbo]
              rw [hmf] at R1
              have HM5 := Lib.hid (M.on (envb E))
              have HB5 := Lib.hid (belows hB (envb E))
              have hO5 := own_on hO (envb E)
              have HNE := Lib.hid hbo
              have HNB := Lib.hid (smap_row HM5.out hO5)
              unfold missV at R1
              have hbd : balO rs l[k] = if laidN rs l[k].mark < l[k].count then some ⟨1, l[k].mark⟩ else if l[k].count < laidN rs l[k].mark then some ⟨2, l[k].mark⟩ else none := rfl
              have HBd := Lib.hid hbd
              clear hbd hmf hbo hfn M hO
              generalize laidN rs l[k].mark = ln at *
              generalize bal (l.take k) rs = O at *
              generalize balO rs l[k] = bo at *
              generalize l[k].mark = mk at *
              generalize l[k].size = bs at *
              generalize l[k].count = bct at *
              generalize l[k].code = cd at *
              generalize l[k].ds.length = dl at *
              generalize l[k].cap = dc at *
              generalize l[k].p = dp at *
              clear E HNE
              by_cases hz : bct - ln = 0
              · rw [if_pos hz] at R1
                simp only [Option.getD_none, Option.isSome_none] at R1
                have HB0 : Hid (bo = none) := Lib.hid (by rw [HBd.out, if_neg (by omega), if_neg (by omega)])
                clear hz
                go_wp2
                go_roundw
                · exact ⟨k + 1, _, rfl, rfl, hlt, (by rw [HT.out, HB0.out]; show Own fc 71 2 w.heap.size _ F (O ++ []); rw [List.append_nil]; exact hO5), HM5.out, HB5.out⟩
                · simp [intOf]; omega
              rw [if_neg hz] at R1
              simp only [Option.getD_some, Option.isSome_some] at R1
              rcases Int.lt_or_le (bct - ln) 0 with hn | hn
              · have g3 : decide (bct - ln < 0) = true := by simpa using hn
                have hn2 := Has.new_ (wr.alloc (.cells #[.string mk, .int .i64 bs, .int .i64 bct, .int .i64 cd, .slice dp dl dc] 49)) 71 #[.int .i64 2, .string mk]
                rw [World.size_alloc] at hn2
                have HN := Lib.hid hn2
                clear hn2
                have HOO := own_on hO5 (al1 (wr.alloc (.cells #[.string mk, .int .i64 bs, .int .i64 bct, .int .i64 cd, .slice dp dl dc] 49)) (.cells #[.int .i64 2, .string mk] 71))
                have B6 := al HB5.out (.cells #[.int .i64 2, .string mk] 71)
                have s6 := B6.size
                have hge := fun q (hq : _ = some q) => (World.ownsRow.lt HOO q hq)
                have HBk := HBd.out
                rw [if_neg (by omega), if_pos (by omega)] at HBk
                generalize bct - ln = dd at *
                clear hz hn
                have HG := Lib.hid (And.intro B6 (And.intro hge HBk))
                clear B6 hge HBk hO5
                go_wp2_with (at_builtin; refine wpList_append_own_at _ rfl _ _ 66 rfl w.heap.size 71 i0 _ 2 24 Try.underlying66 hinf hz0 hz1 hz2 rfl (by decide) _ O.length (O.flatMap fc) rfl HOO ⟨_, 0, none⟩ 1 1 [.int .i64 2, .string mk] rfl rfl (World.news_of_block (cs := #[.int .i64 2, .string mk]) (t := 71) (fr := (0, 0)) HN.out) (by simp [Value.oneCell']) (by unfold maxLen; omega) (by omega) s6 ?_)
                intro v' w7 r1 r2 r3 r4
                have O7 : Own fc 71 2 w.heap.size w7 v' (O ++ [⟨2, mk⟩]) := own_snoc r1
                obtain ⟨B6, hge, HBk⟩ := HG.out
                have B7 : Below w.heap.size w w7 := B6.grown r2 s6 (fun q hq => (hge q hq).1)
                have M7 : Smap w7 mb 120 (missF l rs) := by
                  have hM := HM5.out.on (al1 (wr.alloc (.cells #[.string mk, .int .i64 bs, .int .i64 bct, .int .i64 cd, .slice dp dl dc] 49)) (.cells #[.int .i64 2, .string mk] 71))
                  exact hM.same (r2.block mb hM.lt fun e => HNB.out e.symm)
                clear r1 r2 r3 r4 HOO HG B6 hge
                go_wp2
                go_roundw
                · exact ⟨k + 1, _, rfl, rfl, hlt, (by rw [HT.out, HBk]; exact O7), M7, B7⟩
                · simp [intOf]; omega
              · have g3 : decide (bct - ln < 0) = false := by simp; omega
                have hn2 := Has.new_ (wr.alloc (.cells #[.string mk, .int .i64 bs, .int .i64 bct, .int .i64 cd, .slice dp dl dc] 49)) 71 #[.int .i64 1, .string mk]
                rw [World.size_alloc] at hn2
                have HN := Lib.hid hn2
                clear hn2
                have HOO := own_on hO5 (al1 (wr.alloc (.cells #[.string mk, .int .i64 bs, .int .i64 bct, .int .i64 cd, .slice dp dl dc] 49)) (.cells #[.int .i64 1, .string mk] 71))
                have B6 := al HB5.out (.cells #[.int .i64 1, .string mk] 71)
                have s6 := B6.size
                have hge := fun q (hq : _ = some q) => (World.ownsRow.lt HOO q hq)
                have HBk := HBd.out
                rw [if_pos (by omega)] at HBk
                generalize bct - ln = dd at *
                clear hz hn
                have HG := Lib.hid (And.intro B6 (And.intro hge HBk))
                clear B6 hge HBk hO5
                go_wp2_with (at_builtin; refine wpList_append_own_at _ rfl _ _ 66 rfl w.heap.size 71 i0 _ 2 24 Try.underlying66 hinf hz0 hz1 hz2 rfl (by decide) _ O.length (O.flatMap fc) rfl HOO ⟨_, 0, none⟩ 1 1 [.int .i64 1, .string mk] rfl rfl (World.news_of_block (cs := #[.int .i64 1, .string mk]) (t := 71) (fr := (0, 0)) HN.out) (by simp [Value.oneCell']) (by unfold maxLen; omega) (by omega) s6 ?_)
                intro v' w7 r1 r2 r3 r4
                have O7 : Own fc 71 2 w.heap.size w7 v' (O ++ [⟨1, mk⟩]) := own_snoc r1
                obtain ⟨B6, hge, HBk⟩ := HG.out
                have B7 : Below w.heap.size w w7 := B6.grown r2 s6 (fun q hq => (hge q hq).1)
                have M7 : Smap w7 mb 120 (missF l rs) := by
                  have hM := HM5.out.on (al1 (wr.alloc (.cells #[.string mk, .int .i64 bs, .int .i64 bct, .int .i64 cd, .slice dp dl dc] 49)) (.cells #[.int .i64 1, .string mk] 71))
                  exact hM.same (r2.block mb hM.lt fun e => HNB.out e.symm)
                clear r1 r2 r3 r4 HOO HG B6 hge
                go_wp2
                go_roundw
                · exact ⟨k + 1, _, rfl, rfl, hlt, (by rw [HT.out, HBk]; exact O7), M7, B7⟩
                · simp [intOf]; omega
            · have g1 : decide ((k : Int) < (l.length : Int)) = false := by simp; omega
              rw [List.take_of_length_le (by omega)] at hO
              go_wp2
              exact bodyPost_ret (v := .tuple #[F, .int .i64 0]) (by simp [results, Try.results28, go_sem]) rfl ⟨F, rfl, hO, hB⟩
end Go.Proofs.Ytfkcogocaecodaa
namespace Go.Proofs.Ytfkcogocaecodaa
open Go.ChangeShapes Go.WideShapes Go.ChangeAt Go.RowKit
set_option linter.unusedVariables false
set_option linter.unusedSimpArgs false

theorem ne54 (x y : Bx) (W : World) : (binOp .neq 54 (.agg (cb x).toArray) (.agg (cb y).toArray)).run Try.prog W = .ok (.bool (!decide (x = y))) W := by
  unfold cb
  rw [run_neq_struct, run_equalIn_agg (ht := by kernel_rfl) (hp := by kernel_rfl)]
  simp [go_sem, Program.fieldsOf, Try.underlying54, Try.underlying24]
  obtain ⟨a, b, c, d, e, f⟩ := x
  obtain ⟨a', b', c', d', e', f'⟩ := y
  simp only [Bx.mk.injEq]
  by_cases h1 : a = a' <;> by_cases h2 : b = b' <;> by_cases h3 : c = c' <;> by_cases h4 : d = d' <;> by_cases h5 : e = e' <;> by_cases h6 : f = f' <;> simp [h1, h2, h3, h4, h5, h6]
theorem ne71 (x y : Fg) (W : World) : (binOp .neq 71 (.agg (fc x).toArray) (.agg (fc y).toArray)).run Try.prog W = .ok (.bool (!decide (x = y))) W := by
  unfold fc
  rw [run_neq_struct, run_equalIn_agg (ht := by kernel_rfl) (hp := by kernel_rfl)]
  simp [go_sem, Program.fieldsOf, Try.underlying71]
  obtain ⟨a, b⟩ := x
  obtain ⟨a', b'⟩ := y
  simp only [Fg.mk.injEq]
  have e2 : b.toList = b'.toList ↔ b = b' := by rw [← eqN_iff]; simp
  by_cases h1 : a = a' <;> by_cases h2 : b = b' <;> simp [h1, h2, e2]
set_option maxRecDepth 100000 in
set_option maxHeartbeats 4000000 in
theorem equalx_30 (v v' : Value) (xs ys : List Bx) (w : World) (h1 : Rd cb 6 w v xs) (h2 : Rd cb 6 w v' ys) (hx : xs.length ≤ 100000) :
    Calls Try.prog 30 #[v, v'] w fun e w' => e = .returned (.bool (decide (xs = ys))) ∧ Below w.heap.size w w' := by
  obtain ⟨q, c, rfl, k1⟩ := h1
  obtain ⟨q', c', rfl, k2⟩ := h2
  by_cases hl : xs.length = ys.length
  · have t1 : ((xs.length : Int) != (ys.length : Int)) = false := by simp; omega
    have HL := Lib.hid hl
    have K1 := Lib.hid k1
    have K2 := Lib.hid k2
    clear hl k1 k2
    go_enter Try.func30, Try.ntmps30
    go_wp2
    go_loopw [13] (fun v wr => ∃ k : Nat, v = .int .i64 k ∧ k ≤ xs.length ∧ Hid (∀ j (a : j < xs.length) (b : j < ys.length), j < k → xs[j] = ys[j]) ∧ ∃ n, wr = w.drewN n) (fun v _ => xs.length - (intOf v).toNat)
    case atStart => exact ⟨0, rfl, Nat.zero_le _, Lib.hid (fun j a b h => absurd h (Nat.not_lt_zero j)), 0, rfl⟩
    case round =>
      obtain ⟨k, rfl, hk, hE, nd, rfl⟩ := hrel
      by_cases hlt : k < xs.length
      · have g1 : decide ((k : Int) < (xs.length : Int)) = true := by simp [hlt]
        have hlt2 : k < ys.length := by rw [← HL.out]; exact hlt
        have W1 : IntKind.i64.wrap ((k : Int) + 1) = ((k + 1 : Nat) : Int) := by rw [IntWalk.i64_in _ (by omega)]; omega
        obtain ⟨g, rfl, c1⟩ := K1.out k hlt
        obtain ⟨g', rfl, c2⟩ := K2.out k hlt2
        obtain ⟨x, hxx⟩ : ∃ x, x = xs[k] := ⟨_, rfl⟩
        obtain ⟨y, hyy⟩ : ∃ y, y = ys[k] := ⟨_, rfl⟩
        rw [← hxx] at c1
        rw [← hyy] at c2
        have HX := Lib.hid hxx
        have HY := Lib.hid hyy
        clear hxx hyy
        have a0 := c1 0 (by omega)
        have a1 := c1 1 (by omega)
        have a2 := c1 2 (by omega)
        have a3 := c1 3 (by omega)
        have a4 := c1 4 (by omega)
        have a5 := c1 5 (by omega)
        have b0 := c2 0 (by omega)
        have b1 := c2 1 (by omega)
        have b2 := c2 2 (by omega)
        have b3 := c2 3 (by omega)
        have b4 := c2 4 (by omega)
        have b5 := c2 5 (by omega)
        clear c1 c2
        have HQ : ∀ W, (binOp .neq 54 (.agg (cb x).toArray) (.agg (cb y).toArray)).run Try.prog W = .ok (.bool (!decide (x = y))) W := fun W => ne54 x y W
        obtain ⟨p1a, p1b, p1c, p1d, p1e, p1f⟩ := x
        obtain ⟨p2a, p2b, p2c, p2d, p2e, p2f⟩ := y
        replace a0 : w.cell? ⟨g, k * 6, none⟩ = some (.int .i64 p1a) := a0
        replace b0 : w.cell? ⟨g', k * 6, none⟩ = some (.int .i64 p2a) := b0
        replace a1 : w.cell? ⟨g, k * 6 + 1, none⟩ = some (.int .i64 p1b) := a1
        replace b1 : w.cell? ⟨g', k * 6 + 1, none⟩ = some (.int .i64 p2b) := b1
        replace a2 : w.cell? ⟨g, k * 6 + 2, none⟩ = some (.int .i64 p1c) := a2
        replace b2 : w.cell? ⟨g', k * 6 + 2, none⟩ = some (.int .i64 p2c) := b2
        replace a3 : w.cell? ⟨g, k * 6 + 3, none⟩ = some (.int .i64 p1d) := a3
        replace b3 : w.cell? ⟨g', k * 6 + 3, none⟩ = some (.int .i64 p2d) := b3
        replace a4 : w.cell? ⟨g, k * 6 + 4, none⟩ = some (.int .i64 p1e) := a4
        replace b4 : w.cell? ⟨g', k * 6 + 4, none⟩ = some (.int .i64 p2e) := b4
        replace a5 : w.cell? ⟨g, k * 6 + 5, none⟩ = some (.int .i64 p1f) := a5
        replace b5 : w.cell? ⟨g', k * 6 + 5, none⟩ = some (.int .i64 p2f) := b5
        have q1 : (0 : Int) ≤ (k : Int) := by omega
        have q2 : (k : Int) < (xs.length : Int) := by omega
        have q3 : (k : Int) < (ys.length : Int) := by omega
        by_cases e : (⟨p1a, p1b, p1c, p1d, p1e, p1f⟩ : Bx) = ⟨p2a, p2b, p2c, p2d, p2e, p2f⟩
        · have HE : Hid (∀ j (a : j < xs.length) (b : j < ys.length), j < k + 1 → xs[j] = ys[j]) := Lib.hid fun j a b h => by
            rcases Nat.lt_or_ge j k with h1 | h1
            · exact hE.out j a b h1
            · have : j = k := by omega
              subst this
              rw [← HX.out, ← HY.out, e]
          have hne : ∀ W, (binOp .neq 54 (.agg #[.int .i64 p1a, .int .i64 p1b, .int .i64 p1c, .int .i64 p1d, .int .i64 p1e, .int .i64 p1f]) (.agg #[.int .i64 p2a, .int .i64 p2b, .int .i64 p2c, .int .i64 p2d, .int .i64 p2e, .int .i64 p2f])).run Try.prog W = .ok (.bool false) W := fun W => (HQ W).trans (by rw [decide_eq_true e]; rfl)
          clear e HQ
          go_wp2_with fail
          go_quiet (fail)
          go_wp2
          exact ⟨⟨k + 1, rfl, hlt, HE, _, rfl⟩, by simp [intOf]; omega⟩
        · have HN := Lib.hid e
          have hne : ∀ W, (binOp .neq 54 (.agg #[.int .i64 p1a, .int .i64 p1b, .int .i64 p1c, .int .i64 p1d, .int .i64 p1e, .int .i64 p1f]) (.agg #[.int .i64 p2a, .int .i64 p2b, .int .i64 p2c, .int .i64 p2d, .int .i64 p2e, .int .i64 p2f])).run Try.prog W = .ok (.bool true) W := fun W => (HQ W).trans (by rw [decide_eq_false e]; rfl)
          clear e HQ
          go_wp2_with fail
          go_quiet (fail)
          go_wp2
          go_ret
          refine ⟨?_, by first | exact below_drewN (Below.refl _ _) _ | exact below_drewN (below_drewN (Below.refl _ _) _) _⟩
          have : decide (xs = ys) = false := by
            apply decide_eq_false
            intro h
            subst h
            exact HN.out (by rw [HX.out, HY.out])
          rw [this]; rfl
      · have g1 : decide ((k : Int) < (xs.length : Int)) = false := by simp; omega
        go_wp2
        go_ret
        refine ⟨?_, below_drewN (Below.refl _ _) _⟩
        have : decide (xs = ys) = true := decide_eq_true (List.ext_getElem HL.out fun j a b => hE.out j a b (by omega))
        rw [this]; rfl
  · have t1 : ((xs.length : Int) != (ys.length : Int)) = true := by simp; omega
    have HN := Lib.hid hl
    clear hl k1 k2
    go_enter Try.func30, Try.ntmps30
    go_wp2
    go_ret
    refine ⟨?_, Below.refl _ _⟩
    have : decide (xs = ys) = false := by
      apply decide_eq_false
      intro h
      exact HN.out (by rw [h])
    rw [this]; rfl
set_option maxRecDepth 100000 in
set_option maxHeartbeats 4000000 in
theorem equalf_29 (v v' : Value) (xs ys : List Fg) (w : World) (h1 : Rd fc 2 w v xs) (h2 : Rd fc 2 w v' ys) (hx : xs.length ≤ 100000) :
    Calls Try.prog 29 #[v, v'] w fun e w' => e = .returned (.bool (decide (xs = ys))) ∧ Below w.heap.size w w' := by
  obtain ⟨q, c, rfl, k1⟩ := h1
  obtain ⟨q', c', rfl, k2⟩ := h2
  by_cases hl : xs.length = ys.length
  · have t1 : ((xs.length : Int) != (ys.length : Int)) = false := by simp; omega
    have HL := Lib.hid hl
    have K1 := Lib.hid k1
    have K2 := Lib.hid k2
    clear hl k1 k2
    go_enter Try.func29, Try.ntmps29
    go_wp2
    go_loopw [13] (fun v wr => ∃ k : Nat, v = .int .i64 k ∧ k ≤ xs.length ∧ Hid (∀ j (a : j < xs.length) (b : j < ys.length), j < k → xs[j] = ys[j]) ∧ ∃ n, wr = w.drewN n) (fun v _ => xs.length - (intOf v).toNat)
    case atStart => exact ⟨0, rfl, Nat.zero_le _, Lib.hid (fun j a b h => absurd h (Nat.not_lt_zero j)), 0, rfl⟩
    case round =>
      obtain ⟨k, rfl, hk, hE, nd, rfl⟩ := hrel
      by_cases hlt : k < xs.length
      · have g1 : decide ((k : Int) < (xs.length : Int)) = true := by simp [hlt]
        have hlt2 : k < ys.length := by rw [← HL.out]; exact hlt
        have W1 : IntKind.i64.wrap ((k : Int) + 1) = ((k + 1 : Nat) : Int) := by rw [IntWalk.i64_in _ (by omega)]; omega
        obtain ⟨g, rfl, c1⟩ := K1.out k hlt
        obtain ⟨g', rfl, c2⟩ := K2.out k hlt2
        obtain ⟨x, hxx⟩ : ∃ x, x = xs[k] := ⟨_, rfl⟩
        obtain ⟨y, hyy⟩ : ∃ y, y = ys[k] := ⟨_, rfl⟩
        rw [← hxx] at c1
        rw [← hyy] at c2
        have HX := Lib.hid hxx
        have HY := Lib.hid hyy
        clear hxx hyy
        have a0 := c1 0 (by omega)
        have a1 := c1 1 (by omega)
        have b0 := c2 0 (by omega)
        have b1 := c2 1 (by omega)
        clear c1 c2
        have HQ : ∀ W, (binOp .neq 71 (.agg (fc x).toArray) (.agg (fc y).toArray)).run Try.prog W = .ok (.bool (!decide (x = y))) W := fun W => ne71 x y W
        obtain ⟨p1a, p1b⟩ := x
        obtain ⟨p2a, p2b⟩ := y
        replace a0 : w.cell? ⟨g, k * 2, none⟩ = some (.int .i64 p1a) := a0
        replace b0 : w.cell? ⟨g', k * 2, none⟩ = some (.int .i64 p2a) := b0
        replace a1 : w.cell? ⟨g, k * 2 + 1, none⟩ = some (.string p1b) := a1
        replace b1 : w.cell? ⟨g', k * 2 + 1, none⟩ = some (.string p2b) := b1
        have q1 : (0 : Int) ≤ (k : Int) := by omega
        have q2 : (k : Int) < (xs.length : Int) := by omega
        have q3 : (k : Int) < (ys.length : Int) := by omega
        by_cases e : (⟨p1a, p1b⟩ : Fg) = ⟨p2a, p2b⟩
        · have HE : Hid (∀ j (a : j < xs.length) (b : j < ys.length), j < k + 1 → xs[j] = ys[j]) := Lib.hid fun j a b h => by
            rcases Nat.lt_or_ge j k with h1 | h1
            · exact hE.out j a b h1
            · have : j = k := by omega
              subst this
              rw [← HX.out, ← HY.out, e]
          have hne : ∀ W, (binOp .neq 71 (.agg #[.int .i64 p1a, .string p1b]) (.agg #[.int .i64 p2a, .string p2b])).run Try.prog W = .ok (.bool false) W := fun W => (HQ W).trans (by rw [decide_eq_true e]; rfl)
          clear e HQ
          go_wp2_with fail
          go_quiet (fail)
          go_wp2
          exact ⟨⟨k + 1, rfl, hlt, HE, _, rfl⟩, by simp [intOf]; omega⟩
        · have HN := Lib.hid e
          have hne : ∀ W, (binOp .neq 71 (.agg #[.int .i64 p1a, .string p1b]) (.agg #[.int .i64 p2a, .string p2b])).run Try.prog W = .ok (.bool true) W := fun W => (HQ W).trans (by rw [decide_eq_false e]; rfl)
          clear e HQ
          go_wp2_with fail
          go_quiet (fail)
          go_wp2
          go_ret
          refine ⟨?_, by first | exact below_drewN (Below.refl _ _) _ | exact below_drewN (below_drewN (Below.refl _ _) _) _⟩
          have : decide (xs = ys) = false := by
            apply decide_eq_false
            intro h
            subst h
            exact HN.out (by rw [HX.out, HY.out])
          rw [this]; rfl
      · have g1 : decide ((k : Int) < (xs.length : Int)) = false := by simp; omega
        go_wp2
        go_ret
        refine ⟨?_, below_drewN (Below.refl _ _) _⟩
        have : decide (xs = ys) = true := decide_eq_true (List.ext_getElem HL.out fun j a b => hE.out j a b (by omega))
        rw [this]; rfl
  · have t1 : ((xs.length : Int) != (ys.length : Int)) = true := by simp; omega
    have HN := Lib.hid hl
    clear hl k1 k2
    go_enter Try.func29, Try.ntmps29
    go_wp2
    go_ret
    refine ⟨?_, Below.refl _ _⟩
    have : decide (xs = ys) = false := by
      apply decide_eq_false
      intro h
      exact HN.out (by rw [h])
    rw [this]; rfl
end Go.Proofs.Ytfkcogocaecodaa
namespace Go.Proofs.Ytfkcogocaecodaa
open Go.ChangeShapes Go.WideShapes Go.ChangeAt Go.RowKit
set_option linter.unusedVariables false
set_option linter.unusedSimpArgs false

def exB (p : Option Addr) (c : Nat) : Bar := ⟨⟨#[97]⟩, 12, 2, 0, p, [100], c⟩
def exR : Rn := ⟨⟨#[97]⟩, ⟨2, -1⟩, ⟨5, 5, 5⟩, ⟨0, 0, 10⟩, 2⟩
theorem ex_bar (p : Option Addr) (c : Nat) : barB (exB p c) = true := by kernel_rfl
theorem ex_of (p : Option Addr) (c : Nat) : barOf [exB p c] exR.mark = some (exB p c) := by
  unfold barOf fnd
  rw [List.findIdx_cons]
  rw [show ((exB p c).mark.toList == exR.mark.toList) = true from eqN_iff.2 rfl]
  rfl
theorem ex_list (p : Option Addr) (c : Nat) : validL [exB p c] = true := by
  have e : okAt [exB p c] 0 = true := by
    rw [okAt_eq (by simp)]
    show (barB (exB p c) && decide (fndV (exB p c).mark [] < 0)) = true
    rw [ex_bar]; rfl
  unfold validL
  rw [show (List.range [exB p c].length) = [0] from rfl]
  simp [e]
theorem ex_fits (p : Option Addr) (c : Nat) : fitsB (exB p c) exR = true := by kernel_rfl
theorem ex_valid (p : Option Addr) (c : Nat) : validR [exB p c] [exR] = true := by
  unfold validR
  rw [ex_list]
  have : fitsM [exB p c] exR = true := by unfold fitsM; rw [ex_of]; exact ex_fits p c
  simp [this]
  decide
theorem ex_lay (p : Option Addr) (c : Nat) : lay [exB p c] [exR] = [(⟨#[97]⟩, [⟨5, 5, 5⟩, ⟨5, 105, 5⟩]), (⟨#[97]⟩, [⟨5, 5, 15⟩, ⟨5, 105, 15⟩])] := by
  unfold lay
  rw [List.flatMap_cons, List.flatMap_nil, List.append_nil]
  unfold layR
  rw [ex_of]
  rfl
theorem ex_legs0 (p : Option Addr) (c : Nat) : legsC [exB p c] [exR] 0 = ([⟨5, 5, 5, 5, 105, 5⟩], 0) := by
  unfold legsC layAt
  rw [ex_valid, ex_lay]
  rfl
theorem ex_legs1 (p : Option Addr) (c : Nat) : legsC [exB p c] [exR] 1 = ([⟨5, 5, 15, 5, 105, 15⟩], 0) := by
  unfold legsC layAt
  rw [ex_valid, ex_lay]
  rfl
theorem ex_bal (p : Option Addr) (c : Nat) : bal [exB p c] [exR] = [] := by
  have e : laidN [exR] (exB p c).mark = 2 := by
    unfold laidN
    rw [List.filter_cons, if_pos (by exact decide_eq_true rfl)]
    rfl
  unfold bal
  rw [List.filterMap_cons]
  unfold balO
  rw [e]
  rfl
theorem slb_one {w : World} {h : Nat} {b : Bar} (hh : Has w h 49 b.cs) (hk : b.Ok w) : Slb w (some ⟨h, 0, none⟩) [b] 1 :=
  ⟨by simp, by simp [maxLen], fun k hkl => by
    obtain rfl : k = 0 := by simp at hkl; omega
    refine ⟨_, rfl, ?_⟩
    rw [Addr.add_lit]
    exact ⟨hh.read 0, hh.read 1, hh.read 2, hh.read 3, hh.read 4⟩, fun x hx => by rw [List.mem_singleton.1 hx]; exact hk⟩
theorem exR_ok : exR.Ok := ⟨show (1 : Nat) ≤ maxLen by decide, by unfold I64; decide, by unfold Pt.ok I64; decide, by unfold Pt.ok I64; decide, by unfold I64; decide, by unfold I64; decide⟩
theorem example_32 (w : World) : Calls Try.prog 32 #[] w fun e w' => ∃ g c g2, e = .returned (.tuple #[.slice (some ⟨g, 0, none⟩) 1 1, .slice (some ⟨g2, 0, none⟩) 1 1]) ∧ Slb w' (some ⟨g, 0, none⟩) [exB c 1] 1 ∧ Slr w' (some ⟨g2, 0, none⟩) [exR] 1 ∧ Below w.heap.size w w' := by
  have A0 := (((Has.new_ w 3 #[.int .i64 100]).on (al1 _ (.cells #[.string ⟨#[97]⟩, .int .i64 12, .int .i64 2, .int .i64 0, .slice (some ⟨w.heap.size, 0, none⟩) 1 1] 49))).on (al1 _ (.cells #[.string ⟨#[97]⟩, .int .i64 2, .int .i64 (-1), .int .i64 5, .int .i64 5, .int .i64 5, .int .i64 0, .int .i64 0, .int .i64 10, .int .i64 2] 30)))
  have A1 := (Has.new_ (w.alloc (.cells #[.int .i64 100] 3)) 49 #[.string ⟨#[97]⟩, .int .i64 12, .int .i64 2, .int .i64 0, .slice (some ⟨w.heap.size, 0, none⟩) 1 1]).on (al1 _ (.cells #[.string ⟨#[97]⟩, .int .i64 2, .int .i64 (-1), .int .i64 5, .int .i64 5, .int .i64 5, .int .i64 0, .int .i64 0, .int .i64 10, .int .i64 2] 30))
  have A2 := Has.new_ ((w.alloc (.cells #[.int .i64 100] 3)).alloc (.cells #[.string ⟨#[97]⟩, .int .i64 12, .int .i64 2, .int .i64 0, .slice (some ⟨w.heap.size, 0, none⟩) 1 1] 49)) 30 #[.string ⟨#[97]⟩, .int .i64 2, .int .i64 (-1), .int .i64 5, .int .i64 5, .int .i64 5, .int .i64 0, .int .i64 0, .int .i64 10, .int .i64 2]
  rw [World.size_alloc] at A1
  rw [World.size_alloc, World.size_alloc] at A2
  have hb := al (al (al1 w (.cells #[.int .i64 100] 3)) (.cells #[.string ⟨#[97]⟩, .int .i64 12, .int .i64 2, .int .i64 0, .slice (some ⟨w.heap.size, 0, none⟩) 1 1] 49)) (.cells #[.string ⟨#[97]⟩, .int .i64 2, .int .i64 (-1), .int .i64 5, .int .i64 5, .int .i64 5, .int .i64 0, .int .i64 0, .int .i64 10, .int .i64 2] 30)
  go_enter Try.func32, Try.ntmps32
  go_wp2
  refine bodyPost_ret (v := .tuple #[.slice (some ⟨w.heap.size + 1, 0, none⟩) 1 1, .slice (some ⟨w.heap.size + 1 + 1, 0, none⟩) 1 1]) (by simp [results, Try.results32, go_sem]) rfl
    ⟨w.heap.size + 1, some ⟨w.heap.size, 0, none⟩, w.heap.size + 1 + 1, rfl, slb_one A1 ⟨show (1 : Nat) ≤ maxLen by decide, show (1 : Nat) ≤ maxLen by decide, ⟨_, _, rfl, fun j hj => ⟨_, rfl, by
      obtain rfl : j = 0 := by simp [exB] at hj; omega
      rw [Addr.add_lit]; exact A0.read 0⟩⟩⟩, Slr.lit [exR] A2 rfl (by simp [maxLen]) (fun r hr => by rw [List.mem_singleton.1 hr]; exact exR_ok), hb⟩
theorem bal_28 (p : Option Addr) (l : List Bar) (cap : Nat) (q : Option Addr) (rs : List Rn) (capr : Nat) (w : World) (hS : Slb w p l cap) (hR : Slr w q rs capr) : Calls Try.prog 28 #[.slice p l.length cap, .slice q rs.length capr] w fun e w' => ∃ v, e = .returned (.tuple #[v, .int .i64 (if validR l rs then 0 else 1)]) ∧ Own fc 71 2 w.heap.size w' v (if validR l rs then bal l rs else []) ∧ Below w.heap.size w w' := by
  cases hv : validR l rs
  · exact (Bal_no p l cap q rs capr w hS hR hv).mono fun e w' h => ⟨_, h.1, Fm.own_nil _ _ _ _ _, h.2⟩
  · exact Bal_ok p l cap q rs capr w hS hR hv
theorem equalx_same (v v' : Value) (xs : List Bx) (w : World) (h1 : Rd cb 6 w v xs) (h2 : Rd cb 6 w v' xs) (hx : xs.length ≤ 100000) : Calls Try.prog 30 #[v, v'] w fun e w' => e = .returned (.bool true) ∧ Below w.heap.size w w' :=
  (equalx_30 v v' xs xs w h1 h2 hx).mono fun e w' h => ⟨h.1.trans (by rw [decide_eq_true rfl]), h.2⟩
theorem own_rdx {B : Nat} {w : World} {v : Value} {l : List Bx} (h : Own cb 54 6 B w v l) : Rd cb 6 w v l := Own.rd cbl h
theorem rd_lit {w : World} {g : Nat} (x : Bx) (h : Has w g 54 #[.int .i64 x.a, .int .i64 x.b, .int .i64 x.c, .int .i64 x.d, .int .i64 x.e, .int .i64 x.f]) : Rd cb 6 w (.slice (some ⟨g, 0, none⟩) 1 1) [x] :=
  ⟨_, _, rfl, fun k hk => ⟨g, rfl, fun j hj => by
    obtain rfl : k = 0 := by simp at hk; omega
    rw [Nat.zero_mul, Nat.zero_add, h.read j]
    simp [cb]⟩⟩
set_option maxHeartbeats 8000000 in
set_option maxRecDepth 100000 in
theorem awake_8 (w : World) : Calls Try.prog 8 #[] w fun e w' => e = .returned (.bool true) ∧ Below w.heap.size w w' := by
  have h30 := fun v v' xs W (h1 : Rd cb 6 W v xs) (h2 : Rd cb 6 W v' xs) (hx : xs.length ≤ 100000) => equalx_same v v' xs W h1 h2 hx
  have h15 := fun p c g g2 i W (hS : Slb W (some ⟨g, 0, none⟩) [exB p c] 1) (hR : Slr W (some ⟨g2, 0, none⟩) [exR] 1) => Legs_15 (some ⟨g, 0, none⟩) [exB p c] 1 (some ⟨g2, 0, none⟩) [exR] 1 i W hS hR
  have h28 := fun p c g g2 W (hS : Slb W (some ⟨g, 0, none⟩) [exB p c] 1) (hR : Slr W (some ⟨g2, 0, none⟩) [exR] 1) => bal_28 (some ⟨g, 0, none⟩) [exB p c] 1 (some ⟨g2, 0, none⟩) [exR] 1 W hS hR
  have hl0 := fun p c => Lib.hid (ex_legs0 p c)
  have hl1 := fun p c => Lib.hid (ex_legs1 p c)
  go_enter Try.func8, Try.ntmps8
  go_upto_region 2 with (go_at_call 32; (with_reducible refine (example_32 _).mono ?_); rintro X w1 ⟨g, c, g2, rfl, hS, hR, hb1⟩)
  have k0 := h15 c 1 g g2 0 w1 hS hR
  rw [ex_legs0] at k0
  have k1 := fun W (h : Below w1.heap.size w1 W) => h15 c 1 g g2 1 W (hS.on h) (hR.on h)
  simp only [ex_legs1] at k1
  have k2 := fun W (h : Below w1.heap.size w1 W) => h28 c 1 g g2 W (hS.on h) (hR.on h)
  simp only [ex_valid, if_true, ex_bal] at k2
  simp only [List.length_cons, List.length_nil, Nat.zero_add] at k0 k1 k2
  clear h15 h28 hl0 hl1
  go_upto_region 5 with (first
    | (go_at_call 15; (with_reducible refine k0.mono ?_); rintro X w2 ⟨v2, rfl, hO2, hb2⟩; clear k0)
    | (go_at_call 15; (with_reducible refine (k1 _ hb2).mono ?_); rintro X w3 ⟨v3, rfl, hO3, hb3⟩)
    | (go_at_call 28; (with_reducible refine (k2 _ (belows hb2 hb3)).mono ?_); rintro X w4 ⟨v4, rfl, hO4, hb4⟩))
  obtain ⟨q2, c2, rfl, K2⟩ := own_rdx hO2
  obtain ⟨q3, c3, rfl, K3⟩ := own_rdx hO3
  have D2 : Rd cb 6 w4 (.slice q2 [(⟨5, 5, 5, 5, 105, 5⟩ : Bx)].length c2) [⟨5, 5, 5, 5, 105, 5⟩] := (own_rdx ((hO2.on hb3).on hb4))
  have D3 : Rd cb 6 w4 (.slice q3 [(⟨5, 5, 15, 5, 105, 15⟩ : Bx)].length c3) [⟨5, 5, 15, 5, 105, 15⟩] := (own_rdx (hO3.on hb4))
  have hv4 : ∃ q4 c4, v4 = .slice q4 0 c4 := by
    obtain ⟨q4, c4, rfl, -⟩ := Own.rd fcl hO4
    exact ⟨q4, c4, rfl⟩
  obtain ⟨q4, c4, rfl⟩ := hv4
  simp only [List.length_cons, List.length_nil, Nat.zero_add] at D2 D3 ⊢
  have BB := belows (belows (belows hb1 hb2) hb3) hb4
  have HR := Lib.hid (And.intro D2 D3)
  clear hO2 hO3 hO4 K2 K3 hb1 hb2 hb3 hb4 hS hR k1 k2 D2 D3
  have e1 := fun W (h : Below w4.heap.size w4 W) => h30 (.slice q2 1 c2) (.slice (some ⟨W.heap.size, 0, none⟩) 1 1) [⟨5, 5, 5, 5, 105, 5⟩] (W.alloc (.cells #[.int .i64 5, .int .i64 5, .int .i64 5, .int .i64 5, .int .i64 105, .int .i64 5] 54)) (HR.out.1.on cbl (al h _)) (rd_lit _ (Has.new_ W 54 #[.int .i64 5, .int .i64 5, .int .i64 5, .int .i64 5, .int .i64 105, .int .i64 5])) (by simp)
  have e2 := fun W (h : Below w4.heap.size w4 W) => h30 (.slice q3 1 c3) (.slice (some ⟨W.heap.size, 0, none⟩) 1 1) [⟨5, 5, 15, 5, 105, 15⟩] (W.alloc (.cells #[.int .i64 5, .int .i64 5, .int .i64 15, .int .i64 5, .int .i64 105, .int .i64 15] 54)) (HR.out.2.on cbl (al h _)) (rd_lit _ (Has.new_ W 54 #[.int .i64 5, .int .i64 5, .int .i64 15, .int .i64 5, .int .i64 105, .int .i64 15])) (by simp)
  go_wp2_with (first
    | (go_at_call 30; (with_reducible refine (e1 _ (Below.refl _ _)).mono ?_); rintro X w5 ⟨rfl, hb5⟩)
    | (go_at_call 30; (with_reducible refine (e2 _ (belows (al1 w4 _) hb5)).mono ?_); rintro X w6 ⟨rfl, hb6⟩))
  go_ret
  exact ⟨rfl, belows (belows BB (belows (al1 w4 _) hb5)) (belows (al1 _ _) hb6)⟩
end Go.Proofs.Ytfkcogocaecodaa
