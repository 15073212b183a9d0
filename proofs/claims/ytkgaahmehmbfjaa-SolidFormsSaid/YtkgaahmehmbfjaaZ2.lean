/- The contracts of Sort and Compact of the kit's shelf, laid at this program by its tools, cut to what is used. slices.Sort and slices.Compact of a list of the call's own. cut: the parts of a side between the ends of others. holders: for each axis and each part which boxes contain it. Lists that ascend (pure): what Sums returns. A region whose order is drawn, gone through in one order: by a plan that says which operation is taken next, either because it yields its value in every world that meets S, or because no other one may come up; the last ones, from n on, wait for all others and come in their order: behind them S need not hold. A region whose order is drawn, with variables that are laid at any time in between (free allocs): gone through by a plan of all other operations; behind it the variables lie in blocks of their own, wherever. The plan speaks of every world that meets S, and S abides whatever is laid anew. -/
import Derived.Shelf.Sort.Plain
import Derived.Shelf.Slices.CompactI
import Derived.Test.YtkgaahmehmbfjaaProg
import Derived.Test.YtkgaahmehmbfjaaZ1
import Derived.StillTail
import Derived.OrdersHeld
import Derived.Deep.RegionHeld
namespace Go.Proofs
open Go.Shelf
def Try.lays189_ren : Go.Shelf.Ren := ⟨fun | 189 => 33 | 125 => 63 | 257 => 62 | 128 => 92 | 129 => 93 | 294 => 83 | 295 => 84 | 296 => 85 | 297 => 86 | 298 => 87 | 299 => 88 | 216 => 89 | 300 => 90 | 301 => 91 | 328 => 106 | 329 => 107 | 330 => 108 | 331 => 109 | 332 => 110 | 215 => 111 | 343 => 119 | n => n, fun | 28 => 57 | 3 => 3 | 46 => 91 | 0 => 0 | 51 => 112 | 53 => 116 | 4 => 4 | 183 => 122 | 182 => 121 | 131 => 84 | 5 => 5 | 9 => 9 | 218 => 145 | 222 => 131 | 228 => 157 | 229 => 50 | n => n, fun | n => n⟩
theorem Try.lays189 : Go.Proofs.Lays.n189 Try.prog Try.lays189_ren := {
  mixed := by kernel_rfl
  f125 := Try.func63.trans (congrArg some (by kernel_rfl))
  f128 := Try.func92.trans (congrArg some (by kernel_rfl))
  f129 := Try.func93.trans (congrArg some (by kernel_rfl))
  f189 := Try.func33.trans (congrArg some (by kernel_rfl))
  f215 := Try.func111.trans (congrArg some (by kernel_rfl))
  f216 := Try.func89.trans (congrArg some (by kernel_rfl))
  f257 := Try.func62.trans (congrArg some (by kernel_rfl))
  f294 := Try.func83.trans (congrArg some (by kernel_rfl))
  f295 := Try.func84.trans (congrArg some (by kernel_rfl))
  f296 := Try.func85.trans (congrArg some (by kernel_rfl))
  f297 := Try.func86.trans (congrArg some (by kernel_rfl))
  f298 := Try.func87.trans (congrArg some (by kernel_rfl))
  f299 := Try.func88.trans (congrArg some (by kernel_rfl))
  f300 := Try.func90.trans (congrArg some (by kernel_rfl))
  f301 := Try.func91.trans (congrArg some (by kernel_rfl))
  f328 := Try.func106.trans (congrArg some (by kernel_rfl))
  f329 := Try.func107.trans (congrArg some (by kernel_rfl))
  f330 := Try.func108.trans (congrArg some (by kernel_rfl))
  f331 := Try.func109.trans (congrArg some (by kernel_rfl))
  f332 := Try.func110.trans (congrArg some (by kernel_rfl))
  f343 := Try.func119.trans (congrArg some (by kernel_rfl))
  t0 := Try.underlying0
  a0 := Try.isAgg0
  z0 := Try.sizeOf0
  v0 := Try.zeroValue0
  t3 := Try.underlying3
  a3 := Try.isAgg3
  z3 := Try.sizeOf3
  v3 := Try.zeroValue3
  t4 := Try.underlying4
  a4 := Try.isAgg4
  z4 := Try.sizeOf4
  v4 := Try.zeroValue4
  t5 := Try.underlying5
  a5 := Try.isAgg5
  z5 := Try.sizeOf5
  v5 := Try.zeroValue5
  t9 := Try.underlying9
  a9 := Try.isAgg9
  z9 := Try.sizeOf9
  v9 := Try.zeroValue9
  t28 := Try.underlying57
  a28 := Try.isAgg57
  z28 := Try.sizeOf57
  v28 := Try.zeroValue57
  t46 := Try.underlying91
  a46 := Try.isAgg91
  z46 := Try.sizeOf91
  v46 := Try.zeroValue91
  t51 := Try.underlying112
  a51 := Try.isAgg112
  z51 := Try.sizeOf112
  v51 := Try.zeroValue112
  t53 := Try.underlying116
  a53 := Try.isAgg116
  z53 := Try.sizeOf116
  v53 := Try.zeroValue116
  t131 := Try.underlying84
  a131 := Try.isAgg84
  z131 := Try.sizeOf84
  v131 := Try.zeroValue84
  t182 := Try.underlying121
  a182 := Try.isAgg121
  z182 := Try.sizeOf121
  v182 := Try.zeroValue121
  t183 := Try.underlying122
  a183 := Try.isAgg122
  z183 := Try.sizeOf122
  v183 := Try.zeroValue122
  t218 := Try.underlying145
  a218 := Try.isAgg145
  z218 := Try.sizeOf145
  v218 := Try.zeroValue145
  t222 := Try.underlying131
  a222 := Try.isAgg131
  z222 := Try.sizeOf131
  v222 := Try.zeroValue131
  t228 := Try.underlying157
  a228 := Try.isAgg157
  z228 := Try.sizeOf157
  v228 := Try.zeroValue157
  t229 := Try.underlying50
  a229 := Try.isAgg50
  z229 := Try.sizeOf50
  v229 := Try.zeroValue50 }
open Go.Sort Go.RowKit in
theorem Try.slices_Sort_int (blk off cap : Nat) (zs : List Int) (w : World) (hH : Holds (Value.int .i64) w blk off zs.toArray) (hblk : blk < w.heap.size) (hsz : zs.length < 4611686018427387904) :
    Calls Try.prog 33 #[.slice (some ⟨blk, off, none⟩) zs.length cap] w fun e w' =>
      e = .returned (.tuple #[]) ∧ ∃ n os, w' = grow (putRow (Value.int .i64) (Sort.ahead w n) blk off (zs.mergeSort fun x y => decide (x ≤ y)).toArray) os := Any.slices_Sort_int Try.lays189 blk off cap zs w hH hblk hsz
def Try.laysNm220_ren : Go.Shelf.Ren := ⟨fun | 20 => 34 | n => n, fun | 22 => 57 | 3 => 3 | 4 => 4 | 0 => 0 | n => n, fun | n => n⟩
theorem Try.laysNm220 : Go.Proofs.Lays2.n20 Try.prog Try.laysNm220_ren := {
  mixed := by kernel_rfl
  f20 := Try.func34.trans (congrArg some (by kernel_rfl))
  t0 := Try.underlying0
  a0 := Try.isAgg0
  z0 := Try.sizeOf0
  v0 := Try.zeroValue0
  t3 := Try.underlying3
  a3 := Try.isAgg3
  z3 := Try.sizeOf3
  v3 := Try.zeroValue3
  t4 := Try.underlying4
  a4 := Try.isAgg4
  z4 := Try.sizeOf4
  v4 := Try.zeroValue4
  t22 := Try.underlying57
  a22 := Try.isAgg57
  z22 := Try.sizeOf57
  v22 := Try.zeroValue57
  i3 := by kernel_rfl }
open Go.RowKit Go.Lib Go.Sort in
theorem Try.slices_Compact_int (blk off cap : Nat) (zs : List Int) (w : World) (hH : Holds (Value.int .i64) w blk off zs.toArray) (hsz : zs.length ≤ 9223372036854775807) (hcap : zs.length ≤ cap) :
    Calls Try.prog 34 #[.slice (some ⟨blk, off, none⟩) zs.length cap] w fun e w' => e = .returned (.slice (some ⟨blk, off, none⟩) (Lib.compact zs).length cap) ∧ ∃ q, w' = putRow (Value.int .i64) (Sort.ahead w q) blk off (Lib.compact zs ++ List.replicate (zs.length - (Lib.compact zs).length) 0).toArray := Any.slices_Compact_int Try.laysNm220 blk off cap zs w hH hsz hcap
end Go.Proofs
namespace Go.Proofs.Ytkgaahmehmbfjaa
open Go.ChangeShapes Go.WideShapes Go.ChangeAt Go.RowKit
set_option linter.unusedVariables false
set_option linter.unusedSimpArgs false

def zv (zs : List Int) : List Value := zs.map (Value.int .i64)
theorem zv_flat (zs : List Int) : zs.flatMap zc = zv zs := by
  induction zs with
  | nil => rfl
  | cons z zs ih => rw [List.flatMap_cons, ih]; rfl
def OwnZ (B : Nat) (w : World) (v : Value) (zs : List Int) : Prop := w.ownsRow B 3 1 v zs.length (zv zs)
theorem ownz {B : Nat} {w : World} {v : Value} {zs : List Int} : Own zc 3 1 B w v zs ↔ OwnZ B w v zs := by unfold Own OwnZ; rw [zv_flat]
theorem OwnZ.at_ {B g cap : Nat} {w : World} {zs : List Int} (h : OwnZ B w (.slice (some ⟨g, 0, none⟩) zs.length cap) zs) {j : Nat} (hj : j < zs.length) : w.cell? ⟨g, j, none⟩ = some (.int .i64 zs[j]) := by
  rw [World.ownsRow.cellAt h j (by omega)]
  simp [zv, hj]
theorem OwnZ.holds {B g cap : Nat} {w : World} {zs : List Int} (h : OwnZ B w (.slice (some ⟨g, 0, none⟩) zs.length cap) zs) : Sort.Holds (Value.int .i64) w g 0 zs.toArray := fun j hj => by
  have hj' : j < zs.length := by simpa using hj
  rw [Nat.zero_add]
  refine ⟨by rw [h.at_ hj']; simp [hj'], ?_⟩
  exact (World.ownsRow.frozenAt h j)
/-- A row whose first cells are laid anew. -/
theorem OwnZ.lay {B g cap n : Nat} {w w' : World} {zs ys us : List Int} (h : OwnZ B w (.slice (some ⟨g, 0, none⟩) zs.length cap) zs) (hh : ∃ os, w'.heap = (w.heap.modify g (Sort.onCells (Sort.putCells (Value.int .i64) 0 us.toArray))) ++ os)
    (hos : w'.os = w.os ∧ w'.tape = w.tape ∧ w'.output = w.output) (hu : us.take n = ys) (hn : n = ys.length) (hn2 : n ≤ cap) (hul : us.length ≤ cap) : OwnZ B w' (.slice (some ⟨g, 0, none⟩) n cap) ys ∧ Below B w w' := by
  obtain ⟨hl, ⟨h1, -⟩ | ⟨g', cap', cur, e, hBg, hg, hn1, hcap, hsz, ht⟩⟩ := h
  · cases h1
  cases e
  obtain ⟨os, hh⟩ := hh
  have hlt := Has.size_ hg
  have hsize : (w.heap.modify g (Sort.onCells (Sort.putCells (Value.int .i64) 0 us.toArray))).size = w.heap.size := by simp
  refine ⟨⟨by simp [zv], .inr ⟨g, cap, Sort.putCells (Value.int .i64) 0 us.toArray cur, by rw [hn], hBg, ?_, by omega, hcap, by simp [Sort.putCells, hsz], ?_⟩⟩, ⟨hos.1, hos.2.1, hos.2.2, ?_, fun k hk => ?_⟩⟩
  · rw [hh, Array.getElem?_append_left (by omega), Array.getElem?_modify, if_pos rfl, hg]
    rfl
  · have hc : cur.size = cap := by simpa using hsz
    subst hu
    apply List.ext_getElem
    · simp only [Sort.putCells, zv]; simp at hn ⊢; omega
    · intro i a b
      have hi : i < us.length := by simp [zv] at b; omega
      simp [Sort.putCells, zv, hi]
  · rw [hh, Array.size_append, hsize]; omega
  · rw [hh, Array.getElem?_append_left (by omega), Array.getElem?_modify, if_neg (by omega)]
set_option maxRecDepth 10000 in
theorem sortz_any (B g cap : Nat) (zs : List Int) (w : World) (h : OwnZ B w (.slice (some ⟨g, 0, none⟩) zs.length cap) zs) (hs : zs.length ≤ 100000) (hc : zs.length ≤ cap) :
    Calls Try.prog 33 #[.slice (some ⟨g, 0, none⟩) zs.length cap] w fun e w' => e = .returned (.tuple #[]) ∧ OwnZ B w' (.slice (some ⟨g, 0, none⟩) zs.length cap) (zs.mergeSort fun x y => decide (x ≤ y)) ∧ Below B w w' := by
  have hlt := (World.ownsRow.lt h _ rfl).2
  refine (Try.slices_Sort_int g 0 cap zs w h.holds hlt (by omega)).mono ?_
  rintro e w' ⟨rfl, n, os, rfl⟩
  have hl : (zs.mergeSort fun x y => decide (x ≤ y)).length = zs.length := List.length_mergeSort ..
  exact ⟨rfl, h.lay (us := zs.mergeSort fun x y => decide (x ≤ y)) ⟨os, rfl⟩ ⟨rfl, rfl, rfl⟩ (by rw [← hl, List.take_length]) hl.symm hc (by rw [hl]; exact hc)⟩
theorem compact_len (zs : List Int) : (Lib.compact zs).length ≤ zs.length := by
  unfold Lib.compact Lib.compactUpTo
  rw [List.length_map]
  exact Nat.le_trans (List.length_filter_le _ _) (by simp)
set_option maxRecDepth 10000 in
theorem compactz_any (B g cap : Nat) (zs : List Int) (w : World) (h : OwnZ B w (.slice (some ⟨g, 0, none⟩) zs.length cap) zs) (hs : zs.length ≤ 100000) (hc : zs.length ≤ cap) :
    Calls Try.prog 34 #[.slice (some ⟨g, 0, none⟩) zs.length cap] w fun e w' => e = .returned (.slice (some ⟨g, 0, none⟩) (Lib.compact zs).length cap) ∧ OwnZ B w' (.slice (some ⟨g, 0, none⟩) (Lib.compact zs).length cap) (Lib.compact zs) ∧ Below B w w' := by
  refine (Try.slices_Compact_int g 0 cap zs w h.holds (by omega) hc).mono ?_
  rintro e w' ⟨rfl, q, rfl⟩
  have hl := compact_len zs
  exact ⟨rfl, h.lay (us := Lib.compact zs ++ List.replicate (zs.length - (Lib.compact zs).length) 0) ⟨#[], by rw [Array.append_empty]; rfl⟩ ⟨rfl, rfl, rfl⟩ (by rw [List.take_left]) rfl (by omega) (by rw [List.length_append, List.length_replicate]; omega)⟩
end Go.Proofs.Ytkgaahmehmbfjaa
namespace Go.Proofs.Ytkgaahmehmbfjaa
open Go.ChangeShapes Go.WideShapes Go.ChangeAt Go.RowKit
set_option linter.unusedVariables false
set_option linter.unusedSimpArgs false

theorem two0 (a b : Int) (w : World) : Sem.run Try.prog (Instr.index 159 (.agg #[.int .i64 a, .int .i64 b]) (.int .i64 0)) w = .ok (.int .i64 a) w := by
  simp [Instr.index, go_sem, Try.underlying159]
theorem two1 (a b : Int) (w : World) : Sem.run Try.prog (Instr.index 159 (.agg #[.int .i64 a, .int .i64 b]) (.int .i64 1)) w = .ok (.int .i64 b) w := by
  simp [Instr.index, go_sem, Try.underlying159]
theorem info67 : (Try.prog.info? 96).map (fun i => (i.zero, i.size, i.bytes)) = some (some (.agg #[.int .i64 0, .int .i64 0]), 2, 16) := by kernel_rfl
def ine (lo hi e : Int) : Bool := decide (lo < e) && decide (e < hi)
def eo (lo hi : Int) (o : S2) : List Int := [o.1, o.2].filter (ine lo hi)
def ends (lo hi : Int) (os : List S2) : List Int := [lo, hi] ++ os.flatMap (eo lo hi)
def srt (l : List Int) : List Int := Lib.compact (l.mergeSort fun x y => decide (x ≤ y))
def prs (l : List Int) : List S2 := (List.range (l.length - 1)).map fun i => (l.getD i 0, l.getD (i + 1) 0)
def cutS (lo hi : Int) (os : List S2) : List S2 := if lo = hi then [(lo, hi)] else prs (srt (ends lo hi os))
theorem ends_next (lo hi : Int) (os : List S2) {k : Nat} (h : k < os.length) : ends lo hi (os.take (k + 1)) = ends lo hi (os.take k) ++ eo lo hi os[k] := by
  unfold ends
  rw [List.take_succ_eq_append_getElem h, List.flatMap_append, List.append_assoc]
  simp
theorem flt_y {p : Int → Bool} {b : Int} (X l : List Int) (h : p b = true) : X ++ l.filter p ++ [b] = X ++ (l ++ [b]).filter p := by simp [h]
theorem flt_n {p : Int → Bool} {b : Int} (X l : List Int) (h : p b = false) : X ++ l.filter p = X ++ (l ++ [b]).filter p := by simp [h]
theorem ends_len (lo hi : Int) (os : List S2) : (ends lo hi os).length ≤ 2 + 2 * os.length := by
  induction os with
  | nil => simp [ends]
  | cons o os ih =>
    have : (eo lo hi o).length ≤ 2 := List.length_filter_le _ _
    simp only [ends, List.flatMap_cons, List.length_append, List.length_cons, List.length_nil] at ih ⊢
    omega
set_option maxHeartbeats 4000000 in
set_option maxRecDepth 100000 in
theorem cut_any (v : Value) (lo hi' : Int) (os : List S2) (w : World) (hR : Rd sc 2 w v os) (hl : os.length ≤ 40) :
    Calls Try.prog 112 #[.agg #[.int .i64 lo, .int .i64 hi'], v] w fun e w' => ∃ u, e = .returned u ∧ Own sc 96 2 w.heap.size w' u (cutS lo hi' os) ∧ Below w.heap.size w w' := by
  obtain ⟨q, c, rfl, hC⟩ := hR.s
  obtain ⟨i0, hi, hz0, hz1, hz2⟩ := info_parts info3
  obtain ⟨j0, hj, hy0, hy1, hy2⟩ := info_parts info67
  have hP := Has.new_ w 96 #[.int .i64 lo, .int .i64 hi']
  have hB0 := al1 w (.cells #[.int .i64 lo, .int .i64 hi'] 96)
  by_cases hlh : lo = hi'
  · have e : cutS lo hi' os = [(lo, hi')] := by unfold cutS; rw [if_pos hlh]
    subst hlh
    rw [e]
    clear e
    go_enter Try.func112, Try.ntmps112
    go_wp2
    go_ret
    have this := World.ownsRow_lit (e := 96) (size := 2) (base := w.heap.size) (w.alloc (.cells #[.int .i64 lo, .int .i64 lo] 96)) #[.int .i64 lo, .int .i64 lo] 1 (by simp) (by unfold maxLen; omega) (by simp)
    exact ⟨_, rfl, by simpa [Own, sc] using this, al hB0 _⟩
  · have hP1 := hP.on (al1 _ (.cells #[.int .i64 lo, .int .i64 hi'] 3))
    have hB1 := al hB0 (.cells #[.int .i64 lo, .int .i64 hi'] 3)
    have hO1 : OwnZ (w.heap.size + 1) ((w.alloc (.cells #[.int .i64 lo, .int .i64 hi'] 96)).alloc (.cells #[.int .i64 lo, .int .i64 hi'] 3)) (.slice (some ⟨w.heap.size + 1, 0, none⟩) 2 2) (ends lo hi' (os.take 0)) := by
      have := World.ownsRow_lit (e := 3) (size := 1) (base := w.heap.size + 1) (w.alloc (.cells #[.int .i64 lo, .int .i64 hi'] 96)) #[.int .i64 lo, .int .i64 hi'] 2 (by simp) (by unfold maxLen; omega) (by simp)
      simpa [ends, OwnZ, zv] using this
    obtain ⟨RES, hRES⟩ : ∃ R, R = cutS lo hi' os := ⟨_, rfl⟩
    rw [← hRES]
    have hdc : decide (lo = hi') = false := by simp [hlh]
    have hbe : (lo == hi') = false := by simp [hlh]
    go_enter Try.func112, Try.ntmps112
    go_wp2
    go_loopw [5, 26] (fun v5 v26 wr => ∃ k : Nat, v26 = .int .i64 k ∧ k ≤ os.length ∧ OwnZ (w.heap.size + 1) wr v5 (ends lo hi' (os.take k)) ∧ Has wr w.heap.size 96 #[.int .i64 lo, .int .i64 hi'] ∧ Below w.heap.size w wr ∧ w.heap.size + 1 ≤ wr.heap.size) (fun _ v _ => os.length - (intOf v).toNat)
    case atStart => exact ⟨0, rfl, Nat.zero_le _, hO1, hP1, hB1, by simp⟩
    case round =>
      clear hP hB0 hP1 hB1 hO1
      obtain ⟨k, rfl, hk, hO, hP, hB, hS⟩ := hrel
      by_cases hlt : k < os.length
      · have g1 : decide ((k : Int) < (os.length : Int)) = true := by simp [hlt]
        obtain ⟨g, rfl, c0, c1⟩ := hC k hlt
        have d0 := cell_later hB c0
        have d1 := cell_later hB c1
        have hP1 := hP.on (al1 wr (.cells #[.int .i64 os[k].1, .int .i64 os[k].2] 96))
        have hB1 := al hB (.cells #[.int .i64 os[k].1, .int .i64 os[k].2] 96)
        have hO1 : OwnZ (w.heap.size + 1) _ _ _ := own_on hO (al1 wr (.cells #[.int .i64 os[k].1, .int .i64 os[k].2] 96))
        have W1 : IntKind.i64.wrap ((k : Int) + 1) = ((k + 1 : Nat) : Int) := by rw [IntWalk.i64_in _ (by omega)]; omega
        have hel := ends_len lo hi' (os.take k)
        rw [List.length_take] at hel
        have HX := Lib.hid (ends_next lo hi' os hlt)
        have HC := Lib.hid hC
        clear hC hO hP hB
        go_wp2
        go_loopw [5, 35] (fun v5 v35 wq => ∃ (i : Nat) (E : List Int), v35 = .int .i64 (i : Int) ∧ i ≤ 2 ∧ Hid (E = ends lo hi' (os.take k) ++ ([os[k].1, os[k].2].take i).filter (ine lo hi')) ∧ Hid (E.length ≤ 82 + i) ∧ OwnZ (w.heap.size + 1) wq v5 E ∧ Has wq w.heap.size 96 #[.int .i64 lo, .int .i64 hi'] ∧ Below w.heap.size w wq ∧ w.heap.size + 1 ≤ wq.heap.size) (fun _ v _ => 2 - (intOf v).toNat)
        case atStart => exact ⟨0, _, rfl, by omega, Lib.hid (by simp), Lib.hid (by omega), hO1, hP1, hB1, by simp; omega⟩
        case round =>
          clear hO1 hP1 hB1 d0 d1
          obtain ⟨i, E, rfl, hi2, HE, HN, hO, hPq, hBq, hS⟩ := hrel
          rcases (by omega : i = 0 ∨ i = 1 ∨ i = 2) with rfl | rfl | rfl
          · have ix := fun W => two0 os[k].1 os[k].2 W
            have p0 := hPq.read 0
            have p1 := hPq.read 1
            simp at p0 p1
            have hnn := HN.out
            by_cases c1 : lo < os[k].1
            · by_cases c2 : os[k].1 < hi'
              · have hq := (by omega : E.length ≤ 90)
                go_wp2_with (at_builtin; refine wpList_append_own_at _ rfl _ _ 57 rfl (w.heap.size + 1) 3 i0 _ 1 8 Try.underlying57 hi hz0 hz1 hz2 rfl (by decide) _ E.length (zv E) rfl (own_on hO (al1 _ _)) ⟨_, 0, none⟩ 1 1 [.int .i64 os[k].1] rfl rfl (cell_one_new _ _ _) (by simp [Value.oneCell']) (by unfold maxLen; omega) (by omega) (Nat.le_trans hS (al1 _ _).size) ?_)
                intro v' w3 o1 o2 o3 o4
                have ob := al1 wr (.cells #[.int .i64 os[k].1] 3)
                have O4 : OwnZ (w.heap.size + 1) w3 v' (E ++ [os[k].1]) := by
                  unfold OwnZ
                  rw [List.length_append, show zv (E ++ [os[k].1]) = zv E ++ [.int .i64 os[k].1] by simp [zv]]
                  exact o1
                have hP4 := Has.grown_ (hPq.on ob) o2 (fun e => by have := (hO.lt _ e.symm).1; omega)
                have hB4 : Below w.heap.size w w3 := (hBq.trans (ob.mono hBq.size)).grown o2 (by have := ob.size; have := hBq.size; omega) (fun j hj => by have := (hO.lt _ hj).1; omega)
                have hS4 : w.heap.size + 1 ≤ w3.heap.size := Nat.le_trans hS (Nat.le_trans ob.size o2.size)
                have hEE := HE.out
                have hnn := HN.out
                clear o1 o2 o3 o4 ob hO
                go_wp2
                go_roundw
                · exact ⟨1, E ++ [os[k].1], rfl, by omega, Lib.hid (by rw [hEE]; exact flt_y _ (List.take 0 [os[k].1, os[k].2]) (by simp [ine, c1, c2])), Lib.hid (by rw [List.length_append]; simp; omega), O4, hP4, hB4, hS4⟩
                · simp [intOf]

              · 
                have hEE := HE.out
                have hnn := HN.out
                go_wp2
                refine ⟨⟨1, E, rfl, by omega, Lib.hid (by rw [hEE]; exact flt_n _ (List.take 0 [os[k].1, os[k].2]) (by simp [ine, *])), Lib.hid (by omega), hO, hPq, hBq, hS⟩, by simp [intOf]⟩

            · 
              have hEE := HE.out
              have hnn := HN.out
              go_wp2
              refine ⟨⟨1, E, rfl, by omega, Lib.hid (by rw [hEE]; exact flt_n _ (List.take 0 [os[k].1, os[k].2]) (by simp [ine, *])), Lib.hid (by omega), hO, hPq, hBq, hS⟩, by simp [intOf]⟩


          · have ix := fun W => two1 os[k].1 os[k].2 W
            have p0 := hPq.read 0
            have p1 := hPq.read 1
            simp at p0 p1
            have hnn := HN.out
            by_cases c1 : lo < os[k].2
            · by_cases c2 : os[k].2 < hi'
              · have hq := (by omega : E.length ≤ 90)
                go_wp2_with (at_builtin; refine wpList_append_own_at _ rfl _ _ 57 rfl (w.heap.size + 1) 3 i0 _ 1 8 Try.underlying57 hi hz0 hz1 hz2 rfl (by decide) _ E.length (zv E) rfl (own_on hO (al1 _ _)) ⟨_, 0, none⟩ 1 1 [.int .i64 os[k].2] rfl rfl (cell_one_new _ _ _) (by simp [Value.oneCell']) (by unfold maxLen; omega) (by omega) (Nat.le_trans hS (al1 _ _).size) ?_)
                intro v' w3 o1 o2 o3 o4
                have ob := al1 wr (.cells #[.int .i64 os[k].2] 3)
                have O4 : OwnZ (w.heap.size + 1) w3 v' (E ++ [os[k].2]) := by
                  unfold OwnZ
                  rw [List.length_append, show zv (E ++ [os[k].2]) = zv E ++ [.int .i64 os[k].2] by simp [zv]]
                  exact o1
                have hP4 := Has.grown_ (hPq.on ob) o2 (fun e => by have := (hO.lt _ e.symm).1; omega)
                have hB4 : Below w.heap.size w w3 := (hBq.trans (ob.mono hBq.size)).grown o2 (by have := ob.size; have := hBq.size; omega) (fun j hj => by have := (hO.lt _ hj).1; omega)
                have hS4 : w.heap.size + 1 ≤ w3.heap.size := Nat.le_trans hS (Nat.le_trans ob.size o2.size)
                have hEE := HE.out
                have hnn := HN.out
                clear o1 o2 o3 o4 ob hO
                go_wp2
                go_roundw
                · exact ⟨2, E ++ [os[k].2], rfl, by omega, Lib.hid (by rw [hEE]; exact flt_y _ (List.take 1 [os[k].1, os[k].2]) (by simp [ine, c1, c2])), Lib.hid (by rw [List.length_append]; simp; omega), O4, hP4, hB4, hS4⟩
                · simp [intOf]

              · 
                have hEE := HE.out
                have hnn := HN.out
                go_wp2
                refine ⟨⟨2, E, rfl, by omega, Lib.hid (by rw [hEE]; exact flt_n _ (List.take 1 [os[k].1, os[k].2]) (by simp [ine, *])), Lib.hid (by omega), hO, hPq, hBq, hS⟩, by simp [intOf]⟩

            · 
              have hEE := HE.out
              have hnn := HN.out
              go_wp2
              refine ⟨⟨2, E, rfl, by omega, Lib.hid (by rw [hEE]; exact flt_n _ (List.take 1 [os[k].1, os[k].2]) (by simp [ine, *])), Lib.hid (by omega), hO, hPq, hBq, hS⟩, by simp [intOf]⟩


          · have hEE := HE.out
            have e2 : E = ends lo hi' (os.take (k + 1)) := by rw [hEE, HX.out]; rfl
            rw [e2] at hO
            go_wp2
            exact ⟨⟨k + 1, rfl, hlt, hO, hPq, hBq, hS⟩, by simp [intOf]; omega⟩
      · have g1 : decide ((k : Int) < (os.length : Int)) = false := by simp; omega
        have e : k = os.length := by omega
        subst e
        rw [List.take_length] at hO
        have hE2 : 2 ≤ (ends lo hi' os).length := by simp [ends]
        have hel := ends_len lo hi' os
        have hcut : cutS lo hi' os = prs (srt (ends lo hi' os)) := by unfold cutS; rw [if_neg hlh]
        unfold srt at hcut
        generalize ends lo hi' os = E at *
        have hO' := hO
        obtain ⟨-, ⟨-, h2⟩ | ⟨G, cap, cur, rfl, hBg, -, hn1, hcap, -, -⟩⟩ := hO'
        · omega
        have hM : (E.mergeSort fun x y => decide (x ≤ y)).length = E.length := List.length_mergeSort ..
        have s1 := sortz_any (w.heap.size + 1) G cap E wr hO (by omega) hn1
        have s2 := fun W h => compactz_any (w.heap.size + 1) G cap (E.mergeSort fun x y => decide (x ≤ y)) W h (by rw [hM]; omega) (by rw [hM]; omega)
        have hL1 := compact_len (E.mergeSort fun x y => decide (x ≤ y))
        rw [hM] at s2 hL1
        generalize (E.mergeSort fun x y => decide (x ≤ y)) = M at *
        generalize Lib.compact M = L at *
        have hll : L.length ≤ 90 := by omega
        have W0 : IntKind.i64.wrap ((L.length : Int) - 1) = (L.length : Int) - 1 := IntWalk.i64_in _ (by omega)
        clear hO hP hC g1 hlt hel hE2
        go_wp2_with (first
          | (go_at_call 33; (with_reducible refine s1.mono ?_); rintro X w1 ⟨rfl, q1, b1⟩; clear s1; have B1 := hB.trans (b1.mono (Nat.le_succ _)))
          | (go_at_call 34; (with_reducible refine (s2 _ q1).mono ?_); rintro X w2 ⟨rfl, q2, b2⟩; clear s2; have B2 := B1.trans (b2.mono (Nat.le_succ _)))
          | (at_make; refine wpList_make_own _ rfl _ _ 151 rfl w.heap.size 96 j0 _ 2 Try.underlying151 hj hy0 hy1 _ _ _ L.length rfl rfl rfl (by rw [hy2]; omega) (by unfold maxLen; omega) B2.size ?_; intro w3 r1 r2))
        have b3 : Below w2.heap.size w2 w3 := (Below.refl _ w2).grown r2 (Nat.le_refl _) (fun k hk => by cases hk)
        have B3 := B2.trans (b3.mono B2.size)
        have q3 : OwnZ (w.heap.size + 1) w3 (.slice (some ⟨G, 0, none⟩) L.length cap) L := own_on q2 b3
        have hG2 : G < w2.heap.size := (World.ownsRow.lt q2 G rfl).2
        have r3 : Own sc 96 2 w.heap.size w3 (.slice (some ⟨w2.heap.size, 0, none⟩) 0 L.length) ((prs L).take 0) := by simpa [Own] using r1
        have hpl : (prs L).length = L.length - 1 := by simp [prs]
        have hpe : ∀ i (h : i + 1 < L.length), (prs L).take (i + 1) = (prs L).take i ++ [(L[i], L[i + 1])] := by
          intro i h
          rw [List.take_succ_eq_append_getElem (by omega)]
          have h1 : i < L.length := by omega
          simp [prs, List.getElem?_eq_getElem h1, List.getElem?_eq_getElem h]
        rw [← hRES] at hcut
        generalize prs L = P at *
        have HCUT := Lib.hid hcut
        clear hcut
        clear r1 r2 q1 q2 b1 b2 B1 hB
        have hne0 : (Value.slice (some ⟨w2.heap.size, 0, none⟩) 0 L.length).ownBlock ≠ some G := by simp [Value.ownBlock]; omega
        go_loopw [10, 64] (fun v10 v64 wr => ∃ i : Nat, v64 = .int .i64 (i : Int) ∧ (i = 0 ∨ i < L.length) ∧ Own sc 96 2 w.heap.size wr v10 (P.take i) ∧ OwnZ (w.heap.size + 1) wr (.slice (some ⟨G, 0, none⟩) L.length cap) L ∧ v10.ownBlock ≠ some G ∧ Below w.heap.size w wr) (fun _ v _ => L.length - (intOf v).toNat)
        case atStart => exact ⟨0, rfl, .inl rfl, r3, q3, hne0, B3⟩
        case round =>
        clear r3 q3 hne0 B3 b3 B2
        obtain ⟨i, rfl, hi2, hO, hL, hne, hB⟩ := hrel
        by_cases hlt : i + 1 < L.length
        · have g1 : decide ((i : Int) < (L.length : Int) - 1) = true := by simp; omega
          have h1 : i < L.length := by omega
          have c0 := hL.at_ h1
          have c1 := hL.at_ hlt
          have W1 : IntKind.i64.wrap ((i : Int) + 1) = (i : Int) + 1 := IntWalk.i64_in _ (by omega)
          have g2 : (i : Int) + 1 < (L.length : Int) := by omega
          have g3 : ((i : Int) + 1).toNat = i + 1 := by omega
          have g4 : (0 : Int) ≤ (i : Int) + 1 := by omega
          have hpi := hpe i hlt
          have hpli : (P.take i).length = i := by rw [List.length_take]; omega
          generalize P.take i = Q at *
          go_wp2_with fail
          go_region_law ((refine step_append_lies _ rfl _ _ _ rfl w.heap.size 96 j0 _ 2 16 Try.underlying151 hj hy0 hy1 hy2 rfl (by omega) _ Q.length (Q.flatMap sc) (by simp [Act.eval, Act.put]) (own_on hO (Below.drew (al1 wr (.cells #[.int .i64 L[i], .int .i64 L[i + 1]] 96)))) ⟨wr.heap.size, 0, none⟩ 1 1 [.int .i64 L[i], .int .i64 L[i + 1]] (by simp [Act.eval, Act.put]) rfl (World.news_of_block (cs := #[.int .i64 L[i], .int .i64 L[i + 1]]) (t := 96) (fr := (0, 0)) (heap_alloc_new wr _)) (by simp [Value.oneCell']) (by omega) (by unfold maxLen; omega) (by omega) (by have := hB.size; simp; omega) (wr.heap.size + 1) (by simp) ?_); intro gg cap2 w1 hown1 hgrow hat hlt2)
          all_goals (
            have ob : Below wr.heap.size wr (wr.alloc (.cells #[.int .i64 L[i], .int .i64 L[i + 1]] 96)).drew := Below.drew (al1 wr _)
            have hO2 : Own sc 96 2 w.heap.size w1 (.slice (some ⟨gg, 0, none⟩) (Q.length + 1) cap2) (Q ++ [(L[i], L[i + 1])]) := by
              unfold Own
              rw [List.flatMap_append, List.length_append]
              exact hown1
            rw [← hpi, hpli] at hO2
            have hGl := (World.ownsRow.lt hL G rfl).2
            have hL2 := World.ownsRow.kept (own_on hL ob) hgrow (.inr (fun e => hne e.symm))
            have hne2 : (Value.slice (some ⟨gg, 0, none⟩) (i + 1) cap2).ownBlock ≠ some G := by
              rcases hat with e | rfl
              · exact fun h => hne (e.trans h)
              · simp [Value.ownBlock]; omega
            have hB2 : Below w.heap.size w w1 := (hB.trans (ob.mono hB.size)).grown hgrow (by have := ob.size; have := hB.size; omega) (fun j hj => (World.ownsRow.lt hO _ hj).1)
            clear hown1 hgrow hat hO hL
            go_wp2
            exact ⟨⟨i + 1, by simp, .inr hlt, hO2, hL2, hne2, hB2⟩, by simp [intOf]; omega⟩)
        · have g1 : decide ((i : Int) < (L.length : Int) - 1) = false := by simp; omega
          have e : P.take i = P := List.take_of_length_le (by omega)
          rw [e, ← HCUT.out] at hO
          go_wp2
          go_ret
          exact ⟨_, rfl, hO, hB⟩
end Go.Proofs.Ytkgaahmehmbfjaa
namespace Go.Proofs.Ytkgaahmehmbfjaa
open Go.ChangeShapes Go.WideShapes Go.ChangeAt Go.RowKit
set_option linter.unusedVariables false
set_option linter.unusedSimpArgs false

def Bx.side (x : Bx) : Nat → S2
  | 0 => (x.a, x.d)
  | 1 => (x.b, x.e)
  | _ => (x.c, x.f)
def sds (l : List Bx) (i : Nat) : List S2 := l.map fun x => x.side i
def hold (l : List Bx) (b : Bx) (i : Nat) : List Nat := (cutS (b.side i).1 (b.side i).2 (sds l i)).map fun p => hmk (sds l i) p (sds l i).length
/-- All blocks below B but A are as they were. -/
def Far (B A : Nat) (w w' : World) : Prop := ∀ k, k < B → k ≠ A → w'.heap[k]? = w.heap[k]?
theorem Far.refl (B A : Nat) (w : World) : Far B A w w := fun _ _ _ => rfl
theorem Far.trans {B A : Nat} {a b c : World} (h : Far B A a b) (k : Far B A b c) : Far B A a c := fun j h1 h2 => (k j h1 h2).trans (h j h1 h2)
theorem Far.below {B A C : Nat} {a b : World} (h : Below C a b) (hB : B ≤ C) : Far B A a b := fun j h1 h2 => h.block j (by omega)
theorem Far.set {B A i : Nat} {u : Value} (a : World) : Far B A a (a.setCell ⟨A, i, none⟩ u) := fun j h1 h2 => Below.heap_setCell _ _ _ _ h2
theorem Far.has {B A g : Nat} {a b : World} {t : TypeId} {cs : Array Value} (h : Has a g t cs) (k : Far B A a b) (h1 : g < B) (h2 : g ≠ A) : Has b g t cs := by
  unfold Has; rw [k g h1 h2]; exact h
/-- A row apart from block A. -/
def Apt (B A : Nat) (v : Value) : Prop := ∀ g, v.ownBlock = some g → g < B ∧ g ≠ A
theorem Far.rd {α : Type} {f : α → List Value} {s : Nat} (hf : ∀ x, (f x).length = s) {B A : Nat} {a b : World} {v : Value} {l : List α} (h : Rd f s a v l) (k : Far B A a b) (hv : Apt B A v) : Rd f s b v l := by
  obtain ⟨q, c, rfl, hC⟩ := h
  refine ⟨q, c, rfl, fun i hi => ?_⟩
  obtain ⟨g, rfl, hc⟩ := hC i hi
  have hg := hv g rfl
  exact ⟨g, rfl, fun j hj => by rw [← hc j hj]; exact World.cell?_of_block (k g hg.1 hg.2)⟩
theorem Apt.mono {B B' A : Nat} {v : Value} (h : Apt B A v) (hB : B ≤ B') : Apt B' A v := fun g e => ⟨Nat.lt_of_lt_of_le (h g e).1 hB, (h g e).2⟩
theorem Own.apt {α : Type} {f : α → List Value} {t : TypeId} {s B : Nat} {w : World} {v : Value} {l : List α} (h : Own f t s B w v l) {A : Nat} (hA : A < B) : Apt w.heap.size A v := fun g e => by
  have := World.ownsRow.lt h g e
  exact ⟨this.2, by omega⟩
/-- A row above block A. -/
def UB (A : Nat) (w : World) (v : Value) : Prop := ∀ g, v.ownBlock = some g → g < w.heap.size ∧ A < g
theorem UB.apt {A : Nat} {w : World} {v : Value} (h : UB A w v) : Apt w.heap.size A v := fun g e => ⟨(h g e).1, by have := (h g e).2; omega⟩
theorem UB.up {A : Nat} {w w' : World} {v : Value} (h : UB A w v) (hs : w.heap.size ≤ w'.heap.size) : UB A w' v := fun g e => ⟨Nat.lt_of_lt_of_le (h g e).1 hs, (h g e).2⟩
theorem Own.ub {α : Type} {f : α → List Value} {t : TypeId} {s B : Nat} {w : World} {v : Value} {l : List α} (h : Own f t s B w v l) {A : Nat} (hA : A < B) : UB A w v := fun g e => by
  have := World.ownsRow.lt h g e
  exact ⟨this.2, by omega⟩
theorem Has.cells6 {w : World} {g : Nat} {t : TypeId} {a b c d e f : Value} (h : Has w g t #[a, b, c, d, e, f]) : w.cell? ⟨g, 0, none⟩ = some a ∧ w.cell? ⟨g, 1, none⟩ = some b ∧ w.cell? ⟨g, 2, none⟩ = some c ∧ w.cell? ⟨g, 3, none⟩ = some d ∧ w.cell? ⟨g, 4, none⟩ = some e ∧ w.cell? ⟨g, 5, none⟩ = some f :=
  ⟨h.read 0, h.read 1, h.read 2, h.read 3, h.read 4, h.read 5⟩
theorem cutS_len (lo hi : Int) (os : List S2) : (cutS lo hi os).length ≤ 2 + 2 * os.length := by
  unfold cutS
  split
  · simp; omega
  · have h1 := ends_len lo hi os
    have h2 := compact_len ((ends lo hi os).mergeSort fun x y => decide (x ≤ y))
    rw [List.length_mergeSort] at h2
    simp [prs, srt]
    omega
theorem info68 : (Try.prog.info? 97).map (fun i => (i.zero, i.size, i.bytes)) = some (some (.agg #[.int .i64 0, .int .i64 0, .int .i64 0, .int .i64 0, .int .i64 0, .int .i64 0]), 6, 48) := by kernel_rfl
theorem info94 : (Try.prog.info? 139).map (fun i => (i.zero, i.size, i.bytes)) = some (some (.int .u64 0), 1, 8) := by kernel_rfl
end Go.Proofs.Ytkgaahmehmbfjaa
namespace Go.Proofs.Ytkgaahmehmbfjaa
set_option linter.unusedVariables false
set_option linter.unusedSimpArgs false
abbrev Asc (xs : List Int) : Prop := xs.Pairwise (· < ·)
theorem asc_eq : ∀ {xs ys : List Int}, Asc xs → Asc ys → (∀ x, x ∈ xs ↔ x ∈ ys) → xs = ys
  | [], [], _, _, _ => rfl
  | [], y :: ys, _, _, h => by have := (h y).2 (List.mem_cons_self ..); simp at this
  | x :: xs, [], _, _, h => by have := (h x).1 (List.mem_cons_self ..); simp at this
  | x :: xs, y :: ys, h1, h2, h => by
    rw [Asc, List.pairwise_cons] at h1 h2
    have a := (h x).1 (List.mem_cons_self ..)
    have b := (h y).2 (List.mem_cons_self ..)
    have e : x = y := by
      rcases List.mem_cons.1 a with a | a
      · exact a
      · rcases List.mem_cons.1 b with b | b
        · exact b.symm
        · have := h1.1 y b
          have := h2.1 x a
          omega
    subst e
    rw [asc_eq h1.2 h2.2 fun z => ?_]
    constructor
    · intro hz
      rcases List.mem_cons.1 ((h z).1 (List.mem_cons_of_mem _ hz)) with k | k
      · have := h1.1 z hz; omega
      · exact k
    · intro hz
      rcases List.mem_cons.1 ((h z).2 (List.mem_cons_of_mem _ hz)) with k | k
      · have := h2.1 z hz; omega
      · exact k
theorem compact_up (d : Array Int) (hs : ∀ i j, i < j → j < d.size → d[i]! ≤ d[j]!) : ∀ m, m ≤ d.size → Asc (Lib.compactUpTo d m) ∧ (∀ x, x ∈ Lib.compactUpTo d m ↔ ∃ j, j < m ∧ d[j]! = x)
  | 0, _ => ⟨by simp [Lib.compactUpTo, Asc], fun x => by simp [Lib.compactUpTo]⟩
  | m + 1, hm => by
    obtain ⟨a, b⟩ := compact_up d hs m (by omega)
    rw [Lib.compactUpTo_succ]
    cases k : Lib.keeps d m
    · simp only [Bool.false_eq_true, if_false, List.append_nil]
      refine ⟨a, fun x => ?_⟩
      rw [b]
      have hk : m ≠ 0 ∧ d[m]! = d[m - 1]! := by
        unfold Lib.keeps at k
        rw [decide_eq_false_iff_not] at k
        constructor
        · exact fun e => k (.inl e)
        · exact Classical.byContradiction fun e => k (.inr e)
      constructor
      · rintro ⟨j, h1, h2⟩; exact ⟨j, by omega, h2⟩
      · rintro ⟨j, h1, h2⟩
        by_cases e : j = m
        · subst e; exact ⟨j - 1, by omega, by rw [← hk.2]; exact h2⟩
        · exact ⟨j, by omega, h2⟩
    · simp only [if_true]
      have hk : m = 0 ∨ d[m]! ≠ d[m - 1]! := of_decide_eq_true k
      refine ⟨List.pairwise_append.2 ⟨a, by simp, ?_⟩, fun x => ?_⟩
      · intro x hx y hy
        rw [List.mem_singleton] at hy
        subst hy
        obtain ⟨j, h1, rfl⟩ := (b x).1 hx
        have h2 := hs j m h1 (by omega)
        rcases hk with rfl | hk
        · omega
        · have h3 := hs (m - 1) m (by omega) (by omega)
          by_cases e : j = m - 1
          · subst e; omega
          · have := hs j (m - 1) (by omega) (by omega); omega
      · rw [List.mem_append, b, List.mem_singleton]
        constructor
        · rintro (⟨j, h1, h2⟩ | rfl)
          · exact ⟨j, by omega, h2⟩
          · exact ⟨m, by omega, rfl⟩
        · rintro ⟨j, h1, h2⟩
          by_cases e : j = m
          · subst e; exact .inr h2.symm
          · exact .inl ⟨j, by omega, h2⟩
theorem sorted_pair (zs : List Int) : (zs.mergeSort fun x y => decide (x ≤ y)).Pairwise (· ≤ ·) := by
  have h := List.pairwise_mergeSort (le := fun x y : Int => decide (x ≤ y)) (fun a b c h1 h2 => by simp only [decide_eq_true_eq] at *; omega) (fun a b => by simp only [Bool.or_eq_true, decide_eq_true_eq]; omega) zs
  exact h.imp fun h => of_decide_eq_true h
theorem srt_asc (zs : List Int) : Asc (srt zs) ∧ ∀ x, x ∈ srt zs ↔ x ∈ zs := by
  have hp := sorted_pair zs
  obtain ⟨T, hT⟩ : ∃ T, T = zs.mergeSort fun x y => decide (x ≤ y) := ⟨_, rfl⟩
  have hm : ∀ x, x ∈ T ↔ x ∈ zs := fun x => by rw [hT, List.mem_mergeSort]
  rw [srt]
  rw [← hT] at hp ⊢
  have := compact_up T.toArray (fun i j h1 h2 => by
    have h2' : j < T.length := by simpa using h2
    have := List.pairwise_iff_getElem.1 hp i j (by omega) h2' h1
    simpa [getElem!_pos, h2', show i < T.length by omega] using this) T.length (by simp)
  refine ⟨this.1, fun x => ?_⟩
  rw [← hm]
  show x ∈ Lib.compactUpTo T.toArray T.length ↔ _
  rw [this.2, List.mem_iff_getElem]
  constructor
  · rintro ⟨j, h1, h2⟩
    exact ⟨j, h1, by simpa [getElem!_pos, h1] using h2⟩
  · rintro ⟨j, h1, h2⟩
    exact ⟨j, h1, by simpa [getElem!_pos, h1] using h2⟩
theorem prs_cons (a b : Int) (l : List Int) : prs (a :: b :: l) = (a, b) :: prs (b :: l) := by
  unfold prs
  simp [List.range_succ_eq_map]
theorem prs_cover {t : Int} : ∀ (l : List Int) (a : Int), 2 * a ≤ t → (∃ y ∈ l, t ≤ 2 * y) → ∃ p ∈ prs (a :: l), 2 * p.1 ≤ t ∧ t ≤ 2 * p.2
  | [], _, _, ⟨y, hy, _⟩ => by simp at hy
  | b :: l, a, h, ⟨y, hy, k⟩ => by
    rw [prs_cons]
    by_cases c : t ≤ 2 * b
    · exact ⟨(a, b), List.mem_cons_self .., h, c⟩
    · rcases List.mem_cons.1 hy with rfl | hy
      · exact absurd k c
      · obtain ⟨p, hp, e⟩ := prs_cover l b (by omega) ⟨y, hy, k⟩
        exact ⟨p, List.mem_cons_of_mem _ hp, e⟩
theorem prs_apart : ∀ (l : List Int), Asc l → ∀ p ∈ prs l, (p.1 ∈ l ∧ p.2 ∈ l) ∧ p.1 < p.2 ∧ ∀ z ∈ l, z ≤ p.1 ∨ p.2 ≤ z
  | [], _, p, hp => by simp [prs] at hp
  | [a], _, p, hp => by simp [prs] at hp
  | a :: b :: l, h, p, hp => by
    rw [Asc, List.pairwise_cons] at h
    rw [prs_cons] at hp
    have hb := List.pairwise_cons.1 h.2
    rcases List.mem_cons.1 hp with rfl | hp
    · refine ⟨⟨by simp, by simp⟩, h.1 b (by simp), fun z hz => ?_⟩
      rcases List.mem_cons.1 hz with rfl | hz
      · exact .inl (Int.le_refl _)
      · rcases List.mem_cons.1 hz with rfl | hz
        · exact .inr (Int.le_refl _)
        · exact .inr (by have := hb.1 z hz; simp only; omega)
    · obtain ⟨⟨k1, k2⟩, k3, k4⟩ := prs_apart (b :: l) h.2 p hp
      refine ⟨⟨List.mem_cons_of_mem _ k1, List.mem_cons_of_mem _ k2⟩, k3, fun z hz => ?_⟩
      rcases List.mem_cons.1 hz with rfl | hz
      · exact .inl (by have := h.1 p.1 k1; omega)
      · exact k4 z hz
theorem ends_mem (lo hi : Int) (os : List S2) (z : Int) : z ∈ ends lo hi os ↔ (z = lo ∨ z = hi) ∨ ∃ o ∈ os, (z = o.1 ∨ z = o.2) ∧ lo < z ∧ z < hi := by
  simp only [ends, List.mem_append, List.mem_cons, List.not_mem_nil, or_false, List.mem_flatMap, eo, List.mem_filter, ine, Bool.and_eq_true, decide_eq_true_eq]
/-- Each doubled whole number of a side lies in a part. -/
theorem cut_cover {lo hi t : Int} (os : List S2) (h : lo ≤ hi) (h1 : 2 * lo ≤ t) (h2 : t ≤ 2 * hi) : ∃ p ∈ cutS lo hi os, 2 * p.1 ≤ t ∧ t ≤ 2 * p.2 := by
  unfold cutS
  split
  · exact ⟨(lo, hi), by simp, h1, h2⟩
  · rename_i hne
    obtain ⟨ha, hm⟩ := srt_asc (ends lo hi os)
    generalize srt (ends lo hi os) = L at *
    have hlo : lo ∈ L := (hm lo).2 ((ends_mem ..).2 (.inl (.inl rfl)))
    have hhi : hi ∈ L := (hm hi).2 ((ends_mem ..).2 (.inl (.inr rfl)))
    have hall : ∀ z ∈ L, lo ≤ z := fun z hz => by
      rcases (ends_mem ..).1 ((hm z).1 hz) with (rfl | rfl) | ⟨o, -, -, h3, -⟩
      · omega
      · omega
      · omega
    match L, hlo, hhi, ha with
    | a :: l, hlo, hhi, ha =>
      rw [Asc, List.pairwise_cons] at ha
      have e : a = lo := by
        rcases List.mem_cons.1 hlo with e | e
        · exact e.symm
        · have := ha.1 lo e; have := hall a (List.mem_cons_self ..); omega
      subst e
      exact prs_cover l a h1 ⟨hi, by
        rcases List.mem_cons.1 hhi with e | e
        · exact absurd e.symm hne
        · exact e, h2⟩
/-- Each part of a side holds a doubled whole number, such that who contains it contains the part. -/
theorem cut_inner {lo hi : Int} (os : List S2) (h : lo ≤ hi) {p : S2} (hp : p ∈ cutS lo hi os) : ∃ t, 2 * lo ≤ t ∧ t ≤ 2 * hi ∧ ∀ o ∈ os, 2 * o.1 ≤ t → t ≤ 2 * o.2 → cn o p = true := by
  have cni : ∀ o : S2, cn o p = true ↔ o.1 ≤ p.1 ∧ p.2 ≤ o.2 := fun o => by unfold cn conS; simp
  unfold cutS at hp
  split at hp
  · rename_i he
    rw [List.mem_singleton] at hp
    subst hp
    exact ⟨2 * lo, by omega, by omega, fun o _ k1 k2 => by rw [cni]; simp only; omega⟩
  · obtain ⟨ha, hm⟩ := srt_asc (ends lo hi os)
    obtain ⟨⟨k1, k2⟩, k3, k4⟩ := prs_apart _ ha p hp
    have rng : ∀ z, z ∈ srt (ends lo hi os) → lo ≤ z ∧ z ≤ hi := fun z hz => by
      rcases (ends_mem ..).1 ((hm z).1 hz) with (rfl | rfl) | ⟨o, -, -, h3, h4⟩
      · omega
      · omega
      · omega
    have r1 := rng _ k1
    have r2 := rng _ k2
    refine ⟨2 * p.1 + 1, by omega, by omega, fun o ho m1 m2 => ?_⟩
    rw [cni]
    refine ⟨by omega, ?_⟩
    by_cases c : o.2 < hi
    · have := k4 o.2 ((hm _).2 ((ends_mem ..).2 (.inr ⟨o, ho, .inr rfl, by omega, c⟩)))
      omega
    · omega
end Go.Proofs.Ytkgaahmehmbfjaa
namespace Go.Proofs.Ytkgaahmehmbfjaa
set_option linter.unusedVariables false
set_option linter.unusedSimpArgs false

section
variable {P : Program} {ops : Array Oper} {Q : Exit → Act → World → Prop} {md : Region.Mode} {S : World → Prop} {n : Nat}

def wpAnyT (P : Program) (md : Region.Mode) (ops : Array Oper) (Q : Exit → Act → World → Prop) (S : World → Prop) (n : Nat) : Nat → Array Bool → Act → World → Prop
  | 0, listed, a, w => Region.ready md ops listed = [] ∧ Q .normal a w
  | fuel + 1, listed, a, w =>
    (Region.ready md ops listed = [] → Q .normal a w) ∧
    ∀ i ∈ Region.ready md ops listed, wpOp P ops Q i (fun a' w' => (i < n → S w') ∧ wpAnyT P md ops Q S n fuel (listed.setIfInBounds i true) a' w') a w

theorem wpAny_of_T : ∀ (fuel : Nat) (listed : Array Bool) (a : Act) (w : World), wpAnyT P md ops Q S n fuel listed a w → wpAny P md ops Q fuel listed a w
  | 0, _, _, _, h => h
  | fuel + 1, _, _, _, h => ⟨h.1, fun i hi => wpOp_mono (fun a' w' h' => wpAny_of_T fuel _ a' w' h'.2) (h.2 i hi)⟩

theorem wpAnyT_of_seq : ∀ (l : List Oper) (k : Nat) (listed : Array Bool) (a : Act) (w : World), n ≤ k → (∀ j, l[j]? = ops[k + j]?) →
    Region.seqB md ops l.length k listed = true → wpList P ops Q l a w → wpAnyT P md ops Q S n l.length listed a w
  | [], _, _, _, _, _, _, hB, h => ⟨by simpa [Region.seqB] using hB, h⟩
  | o :: l, k, listed, a, w, hk, hl, hB, h => by
    have h0 : ops[k]? = some o := by simpa using (hl 0).symm
    simp only [List.length_cons, Region.seqB, Bool.and_eq_true, decide_eq_true_eq] at hB
    refine ⟨fun h1 => (by rw [hB.1] at h1; cases h1), fun i hi => ?_⟩
    rw [hB.1] at hi
    have hik : i = k := by simpa using hi
    subst hik
    have hw : wpOp P ops Q i (wpList P ops Q l) a w := by unfold wpOp; simp only [h0]; exact h
    exact wpOp_mono (fun a' w' h' => ⟨fun hin => absurd hin (by omega), wpAnyT_of_seq l (i + 1) _ a' w' (by omega) (fun j => by have := hl (j + 1); simpa [Nat.add_assoc, Nat.add_comm 1 j] using this) hB.2 h'⟩) hw

theorem wpAnyT_first {i : Nat} {oi : Oper} {v : Value} (hi : ops[i]? = some oi) (hsel : ∀ (j : Nat) (o : Oper) cs b, ops[j]? = some o → o.op ≠ .select cs b)
    (hQ : ∀ c a w, Q (.panic c) (a.put oi.dst v) w → Q (.panic c) a w)
    (hs : Region.sinkB md ops n = true) (hc : Region.chainB md ops n = true) (hn : n < ops.size) (hin : i < n) :
    ∀ (fuel : Nat) (listed : Array Bool) (a : Act) (w : World), HeadInv md ops n listed →
      (∀ j oj, ops[j]? = some oj → j ≠ i → listed.getD j true = false → (∀ e ∈ oj.after, Region.binds md e = true → e.on ≠ i) → oi.apart ops oj = true) →
      i ∈ Region.ready md ops listed → YieldsIf P ops S oi v a → S w →
      wpAnyT P md ops Q S n fuel (listed.setIfInBounds i true) (a.put oi.dst v) w → wpAnyT P md ops Q S n (fuel + 1) listed a w := by
  intro fuel
  induction fuel with
  | zero =>
    intro listed a w inv _ hr hy hS H
    refine ⟨fun h => (by rw [h] at hr; cases hr), fun j hj => ?_⟩
    by_cases hji : j = i
    · subst hji; exact hy.wpOp hi hS ⟨fun _ => hS, H⟩
    · have := ready_mono hj hji
      rw [H.1] at this
      cases this
  | succ fuel ih =>
    intro listed a w inv hfree hr hy hS H
    have hun := (mem_ready.1 hr).1
    refine ⟨fun h => (by rw [h] at hr; cases hr), fun j hj => ?_⟩
    have hjn : j < n := by
      rcases Nat.lt_or_ge j n with h | h
      · exact h
      · exact absurd hj (tail_waits hs hc hn inv _ i rfl hin hun j h)
    by_cases hji : j = i
    · subst hji; exact hy.wpOp hi hS ⟨fun _ => hS, H⟩
    · have h1 := H.2 j (ready_mono hj hji)
      obtain ⟨hjun, oj, hoj, hall⟩ := mem_ready.1 hj
      have hnot : ∀ e ∈ oj.after, Region.binds md e = true → e.on ≠ i := fun e he hb heq => by
        have h1 := hall e he hb
        rw [heq, getD_both hun] at h1
        cases h1
      have h2 := wpOp_putIf hoj (hfree j oj hoj hji hjun hnot) (fun cs b => hsel i oi cs b hi) (fun cs b => hsel j oj cs b hoj) hQ hy h1
      have hfree' : ∀ k ok, ops[k]? = some ok → k ≠ i → (listed.setIfInBounds j true).getD k true = false →
          (∀ e ∈ ok.after, Region.binds md e = true → e.on ≠ i) → oi.apart ops ok = true := fun k ok hk hki hun hno => by
        refine hfree k ok hk hki ?_ hno
        by_cases hjk : j = k
        · subst hjk; exact hjun
        · rw [getD_set_ne true hjk] at hun; exact hun
      refine wpOp_mono (fun a' w' h3 => ⟨fun _ => h3.2.1 hjn, ih (listed.setIfInBounds j true) a' w' (inv.set hj hjn) hfree' (ready_mono hr (Ne.symm hji)) h3.1 (h3.2.1 hjn) ?_⟩) h2
      rw [Array.setIfInBounds_comm _ _ hji]
      exact h3.2.2

/-- What is to be shown of a plan: R is what comes at the end. -/
def wpPlan (P : Program) (ops : Array Oper) (Q : Exit → Act → World → Prop) (S : World → Prop) (R : List Oper) : List (Oper × Bool) → Act → World → Prop
  | [], a, w => wpList P ops Q R a w
  | (o, true) :: p, a, w => ∃ v, YieldsIf P ops S o v a ∧ wpPlan P ops Q S R p (a.put o.dst v) w
  | (o, false) :: p, a, w => if Region.wanted o (yielded ops a.tmps) = true then Oper.wp P o a w (fun a' w' => S w' ∧ wpPlan P ops Q S R p a' w') Q else S w ∧ wpPlan P ops Q S R p (a.put o.dst undef) w

def planB (md : Region.Mode) (ops : Array Oper) (n : Nat) : List (Nat × Bool) → Array Bool → Bool
  | [], listed => Region.seqB md ops (ops.size - n) n listed
  | (i, true) :: p, listed => decide (i < n) && (Region.ready md ops listed).contains i && Region.free md ops listed i && planB md ops n p (listed.setIfInBounds i true)
  | (i, false) :: p, listed => decide (i < n) && decide (Region.ready md ops listed = [i]) && planB md ops n p (listed.setIfInBounds i true)

theorem wpAnyT_of_plan {l : List Oper} (hsel : Region.noSelect l.toArray = true) (hQ : ∀ c (a : Act) d v w, Q (.panic c) (a.put d v) w → Q (.panic c) a w)
    (hs : Region.sinkB md l.toArray n = true) (hc : Region.chainB md l.toArray n = true) (hn : n < l.length) :
    ∀ (p : List (Nat × Bool)) (listed : Array Bool) (a : Act) (w : World), HeadInv md l.toArray n listed → planB md l.toArray n p listed = true → S w →
      wpPlan P l.toArray Q S (l.drop n) (p.filterMap fun x => (l[x.1]?).map fun o => (o, x.2)) a w → wpAnyT P md l.toArray Q S n (p.length + (l.drop n).length) listed a w
  | [], listed, a, w, inv, hB, hS, h => by
    have hd : (l.drop n).length = l.toArray.size - n := by simp
    have := wpAnyT_of_seq (P := P) (Q := Q) (S := S) (n := n) (md := md) (ops := l.toArray) (l.drop n) n listed a w (Nat.le_refl _) (fun j => by simp [List.getElem?_drop]) (by rw [hd]; exact hB) h
    simpa using this
  | (i, true) :: p, listed, a, w, inv, hB, hS, h => by
    simp only [planB, Bool.and_eq_true, decide_eq_true_eq] at hB
    obtain ⟨⟨⟨hin, hr⟩, hf⟩, hB'⟩ := hB
    have hr' : i ∈ Region.ready md l.toArray listed := by simpa using hr
    have hil : i < l.length := by omega
    have h0 : l[i]? = some l[i] := List.getElem?_eq_getElem hil
    have h0' : l.toArray[i]? = some l[i] := by simp [h0]
    simp only [List.filterMap_cons, h0, Option.map_some, wpPlan] at h
    obtain ⟨v, hy, hK⟩ := h
    rw [show (((i, true) :: p).length + (l.drop n).length) = (p.length + (l.drop n).length) + 1 by simp; omega]
    exact wpAnyT_first h0' (Region.noSelect_spec hsel) (fun c a w hq => hQ c a _ v w hq) hs hc (by simpa using hn) hin _ listed a w inv (Region.free_spec h0' hf) hr' hy hS
      (wpAnyT_of_plan hsel hQ hs hc hn p _ _ w (inv.set hr' hin) hB' hS hK)
  | (i, false) :: p, listed, a, w, inv, hB, hS, h => by
    simp only [planB, Bool.and_eq_true, decide_eq_true_eq] at hB
    obtain ⟨⟨hin, hr⟩, hB'⟩ := hB
    have hr' : i ∈ Region.ready md l.toArray listed := by rw [hr]; simp
    have hil : i < l.length := by omega
    have h0 : l[i]? = some l[i] := List.getElem?_eq_getElem hil
    have h0' : l.toArray[i]? = some l[i] := by simp [h0]
    simp only [List.filterMap_cons, h0, Option.map_some, wpPlan] at h
    rw [show (((i, false) :: p).length + (l.drop n).length) = (p.length + (l.drop n).length) + 1 by simp; omega]
    refine ⟨fun h1 => (by rw [hr] at h1; cases h1), fun j hj => ?_⟩
    rw [hr] at hj
    have hji : j = i := by simpa using hj
    subst hji
    have hw : wpOp P l.toArray Q j (fun a' w' => S w' ∧ wpPlan P l.toArray Q S (l.drop n) (p.filterMap fun x => (l[x.1]?).map fun o => (o, x.2)) a' w') a w := by
      unfold wpOp
      simp only [h0']
      split at h
      · rename_i hwt; simp only [hwt, if_true]; exact .inl h
      · rename_i hwt; simp only [hwt]; exact h
    exact wpOp_mono (fun a' w' h' => ⟨fun _ => h'.1, wpAnyT_of_plan hsel hQ hs hc hn p _ a' w' (inv.set hr' hin) hB' h'.1 h'.2⟩) hw

/-- The beginning. -/
theorem wp_region_plan {id : Nat} {a : Act} {w : World} {l : List Oper} (n : Nat) (p : List (Nat × Bool)) (S : World → Prop) (hm : P.follows .mixedOrders = true)
    (hB : (Region.noSelect l.toArray && Region.sinkB .any l.toArray n && Region.chainB .any l.toArray n && decide (n < l.length) && decide (p.length = n) && planB .any l.toArray n p (Array.replicate l.toArray.size false)) = true)
    (hQ : ∀ c (a : Act) d v w, Q (.panic c) (a.put d v) w → Q (.panic c) a w) (hS : S w.drew)
    (h : wpPlan P l.toArray Q S (l.drop n) (p.filterMap fun x => (l[x.1]?).map fun o => (o, x.2)) a w.drew) : (Code.region id l.toArray true).wp P Q a w := by
  simp only [Bool.and_eq_true, decide_eq_true_eq] at hB
  obtain ⟨⟨⟨⟨⟨hsel, hs⟩, hc⟩, hn⟩, hp⟩, hpl⟩ := hB
  have inv0 : HeadInv .any l.toArray n (Array.replicate l.toArray.size false) :=
    ⟨by simp, fun j oj _ hl => (by rw [getD_replicate_false] at hl; cases hl), fun t _ ht => getD_in (by simpa using ht) (getD_replicate_false _ _)⟩
  have H := wpAnyT_of_plan (md := .any) hsel hQ hs hc hn p _ a w.drew inv0 hpl hS h
  have hlen : p.length + (l.drop n).length = l.toArray.size := by simp; omega
  rw [hlen] at H
  exact wp_region_any hm (wpAny_of_T _ _ _ _ H)

variable {R : List Oper} {o : Oper} {p : List (Oper × Bool)} {a : Act} {w : World}
theorem wpPlan_still {v : Value} (hy : YieldsIf P ops S o v a) (h : wpPlan P ops Q S R p (a.put o.dst v) w) : wpPlan P ops Q S R ((o, true) :: p) a w := ⟨v, hy, h⟩
theorem wpPlan_only (h : ∀ K : Act → World → Prop, Shut (∀ a w, S w → wpPlan P ops Q S R p a w → K a w) → if Region.wanted o (yielded ops a.tmps) = true then Oper.wp P o a w K Q else K (a.put o.dst undef) w) :
    wpPlan P ops Q S R ((o, false) :: p) a w := h (fun a' w' => S w' ∧ wpPlan P ops Q S R p a' w') (fun a w hS hW => ⟨hS, hW⟩)
theorem wpPlan_end (h : wpList P ops Q R a w) : wpPlan P ops Q S R [] a w := h
end
end Go.Proofs.Ytkgaahmehmbfjaa
namespace Go.Proofs.Ytkgaahmehmbfjaa
open Go.ChangeShapes Go.WideShapes Go.ChangeAt Go.RowKit
set_option linter.unusedVariables false
set_option linter.unusedSimpArgs false

section
variable {P : Program} {ops : Array Oper} {Q : Exit → Act → World → Prop} {md : Region.Mode} {S : World → Prop} {n : Nat}

/-- The state with the variables that are laid so far. -/
def putA (ops : Array Oper) (G : Nat → Option Nat) : List Nat → Act → Act
  | [], a => a
  | j :: A, a => match G j, ops[j]? with
    | some g, some o => (putA ops G A a).put o.dst (.pointer (some ⟨g, 0, none⟩))
    | _, _ => putA ops G A a
/-- The blocks of the variables that are laid so far. -/
def LaysA (zo : Nat → TypeId × Array Value) (B : Nat) (A : List Nat) (G : Nat → Option Nat) (w : World) : Prop :=
  (∀ j ∈ A, ∀ g, G j = some g → B ≤ g ∧ Has w g (zo j).1 (zo j).2) ∧ ∀ i ∈ A, ∀ j ∈ A, i ≠ j → ∀ g h, G i = some g → G j = some h → g ≠ h

theorem putA_look {G : Nat → Option Nat} {o : Oper} (hs : ∀ cs b, o.op ≠ .select cs b) : ∀ {A : List Nat} {a : Act}, (∀ j ∈ A, ∀ x, ops[j]? = some x → x.apart ops o = true) →
    execOp (putA ops G A a).eval o = execOp a.eval o ∧ Region.wanted o (yielded ops (putA ops G A a).tmps) = Region.wanted o (yielded ops a.tmps)
  | [], a, _ => ⟨rfl, rfl⟩
  | j :: A, a, h => by
    have ih := putA_look (G := G) hs (A := A) (a := a) fun k hk => h k (List.mem_cons_of_mem _ hk)
    unfold putA
    split
    · rename_i g x hg hx
      have h1 := (Oper.apart_spec (h j (List.mem_cons_self ..) x hx)).1
      exact ⟨(execOp_put o hs _ _ _ h1).trans ih.1, (wanted_put o _ _ _ h1).trans ih.2⟩
    · exact ih
theorem putA_put {G : Nat → Option Nat} {y : Option Tmp} {v : Value} : ∀ {A : List Nat} {a : Act}, (∀ j ∈ A, ∀ x, ops[j]? = some x → ∀ d, x.dst = some d → y ≠ some d) →
    putA ops G A (a.put y v) = (putA ops G A a).put y v
  | [], a, _ => rfl
  | j :: A, a, h => by
    have ih := putA_put (G := G) (y := y) (v := v) (A := A) (a := a) fun k hk => h k (List.mem_cons_of_mem _ hk)
    unfold putA
    split
    · rename_i g x hg hx
      rw [ih]
      exact (Act.put_comm _ _ _ (h j (List.mem_cons_self ..) x hx)).symm
    · exact ih
theorem putA_defers {G : Nat → Option Nat} (d : Deferred) : ∀ {A : List Nat} {a : Act}, putA ops G A { a with defers := d :: a.defers } = { putA ops G A a with defers := d :: (putA ops G A a).defers }
  | [], a => rfl
  | j :: A, a => by
    have ih := putA_defers (G := G) d (A := A) (a := a)
    unfold putA
    split
    · rw [ih]; exact (Act.put_defers _ _ _ d).symm
    · exact ih
theorem putA_cong {G G' : Nat → Option Nat} : ∀ {A : List Nat} {a : Act}, (∀ j ∈ A, G j = G' j) → putA ops G A a = putA ops G' A a
  | [], a, _ => rfl
  | j :: A, a, h => by
    have ih := putA_cong (A := A) (a := a) fun k hk => h k (List.mem_cons_of_mem _ hk)
    unfold putA
    rw [h j (List.mem_cons_self ..), ih]
theorem putA_more {G : Nat → Option Nat} {j g : Nat} {x : Oper} (hx : ops[j]? = some x) : ∀ {A : List Nat} {a : Act}, j ∈ A → A.Nodup → (∀ i ∈ A, i ≠ j → ∀ y, ops[i]? = some y → ∀ d, y.dst = some d → x.dst ≠ some d) → G j = none →
    putA ops (upd G j (some g)) A a = (putA ops G A a).put x.dst (.pointer (some ⟨g, 0, none⟩))
  | [], a, hj, _, _, _ => by cases hj
  | i :: A, a, hj, hn, h, hG => by
    obtain ⟨hi, hn'⟩ := List.nodup_cons.1 hn
    by_cases hij : i = j
    · subst hij
      have e : putA ops (upd G i (some g)) A a = putA ops G A a := putA_cong fun k hk => upd_other (fun e => hi (e ▸ hk))
      rw [putA, upd_same, hx, putA, hG]
      simp only [e]
    · have hjA : j ∈ A := by
        rcases List.mem_cons.1 hj with e | e
        · exact absurd e.symm hij
        · exact e
      have ih := putA_more (g := g) hx (A := A) (a := a) hjA hn' (fun k hk => h k (List.mem_cons_of_mem _ hk)) hG
      rw [putA, upd_other hij, putA]
      split
      · rename_i g' y hg' hy
        rw [ih]
        exact Act.put_comm _ _ _ (fun d hd e => h i (List.mem_cons_self ..) hij y hy d e hd)
      · exact ih
theorem LaysA.on {zo : Nat → TypeId × Array Value} {B : Nat} {A : List Nat} {G : Nat → Option Nat} {w w' : World} (h : LaysA zo B A G w) (hb : Below w.heap.size w w') : LaysA zo B A G w' :=
  ⟨fun j hj g hg => ⟨(h.1 j hj g hg).1, (h.1 j hj g hg).2.on hb⟩, h.2⟩
theorem LaysA.more {zo : Nat → TypeId × Array Value} {B : Nat} {A : List Nat} {G : Nat → Option Nat} {w : World} (h : LaysA zo B A G w) {j : Nat} (hB : B ≤ w.heap.size) : LaysA zo B A (upd G j (some w.heap.size)) (w.alloc (.cells (zo j).2 (zo j).1)) := by
  refine ⟨fun i hi g hg => ?_, fun i hi k hk hik g g' hg hg' => ?_⟩
  · by_cases e : i = j
    · subst e
      rw [upd_same] at hg; cases hg
      exact ⟨hB, Has.new_ _ _ _⟩
    · rw [upd_other e] at hg
      exact ⟨(h.1 i hi g hg).1, (h.1 i hi g hg).2.on (al1 _ _)⟩
  · by_cases e : i = j
    · subst e
      rw [upd_same] at hg; cases hg
      rw [upd_other (Ne.symm hik)] at hg'
      exact Nat.ne_of_gt (h.1 k hk g' hg').2.size_
    · rw [upd_other e] at hg
      by_cases e' : k = j
      · subst e'
        rw [upd_same] at hg'; cases hg'
        exact Nat.ne_of_lt (h.1 i hi g hg).2.size_
      · rw [upd_other e'] at hg'
        exact h.2 i hi k hk hik g g' hg hg'

/-- What is to be shown of a plan: F is what is to be shown at its end. -/
def wpFree (P : Program) (ops : Array Oper) (Q : Exit → Act → World → Prop) (S : World → Prop) (F : Act → Prop) : List (Oper × Bool) → Act → Prop
  | [], a => F a
  | (o, true) :: p, a => ∃ v, YieldsIf P ops S o v a ∧ wpFree P ops Q S F p (a.put o.dst v)
  | (o, false) :: p, a => ∀ w, S w → if Region.wanted o (yielded ops a.tmps) = true then Oper.wp P o a w (fun a' w' => Below w.heap.size w w' ∧ wpFree P ops Q S F p a') Q else wpFree P ops Q S F p (a.put o.dst undef)

def planF (md : Region.Mode) (ops : Array Oper) (n : Nat) : Nat → List (Nat × Bool) → List Nat → Array Bool → Bool
  | 0, p, rem, listed => p.isEmpty && rem.isEmpty && Region.seqB md ops (ops.size - n) n listed
  | f + 1, [], rem, listed => !rem.isEmpty && !(Region.ready md ops listed).isEmpty && (Region.ready md ops listed).all (fun j => rem.contains j) && rem.all (fun j => decide (j < n) && planF md ops n f [] (rem.erase j) (listed.setIfInBounds j true))
  | f + 1, (i, true) :: p, rem, listed => decide (i < n) && (Region.ready md ops listed).contains i && Region.free md ops listed i && planF md ops n f p rem (listed.setIfInBounds i true)
  | f + 1, (i, false) :: p, rem, listed => decide (i < n) && (Region.ready md ops listed).contains i && (Region.ready md ops listed).all (fun j => j == i || rem.contains j) && planF md ops n f p rem (listed.setIfInBounds i true)
      && rem.all (fun j => decide (j < n) && planF md ops n f ((i, false) :: p) (rem.erase j) (listed.setIfInBounds j true))

/-- Each variable is laid, and by nothing else looked at before its end. -/
def apartB (ops : Array Oper) (n : Nat) (A : List Nat) : Bool :=
  A.all fun j => (List.range n).all fun i => i == j || match ops[j]?, ops[i]? with
    | some x, some y => x.apart ops y
    | _, _ => false
theorem apartB_spec {A : List Nat} (h : apartB ops n A = true) {j i : Nat} (hj : j ∈ A) (hi : i < n) (hne : i ≠ j) {x y : Oper} (hx : ops[j]? = some x) (hy : ops[i]? = some y) : x.apart ops y = true := by
  have h1 := List.all_eq_true.1 (List.all_eq_true.1 h j hj) i (List.mem_range.2 hi)
  simp only [hx, hy, Bool.or_eq_true, beq_iff_eq] at h1
  exact h1.resolve_left hne

theorem upon_putA {G : Nat → Option Nat} {A : List Nat} {o : Oper} {a : Act} {K K' : Act → World → Prop} (hd : ∀ j ∈ A, ∀ x, ops[j]? = some x → ∀ d, x.dst = some d → o.dst ≠ some d)
    (hQ : ∀ c (a : Act) w, Q (.panic c) a w → Q (.panic c) (putA ops G A a) w) (hK : ∀ a' w', K a' w' → K' (putA ops G A a') w') {r : Result Next} (h : o.upon P a K Q r) : o.upon P (putA ops G A a) K' Q r := by
  cases r with
  | ok nx w' =>
    cases nx <;> simp only [Oper.upon] at h ⊢ <;>
      first
        | (rw [← putA_defers, ← putA_put hd]; exact hK _ _ h)
        | (rw [← putA_put hd]; exact hK _ _ h)
        | exact Calls.mono h (fun e w'' he => by cases e <;> first | (simp only at he ⊢; rw [← putA_put hd]; exact hK _ _ he) | exact hQ _ _ _ he | exact he)
        | exact Rows.mono h (fun _ _ he => by rw [← putA_put hd]; exact hK _ _ he)
        | exact h
  | halt x w' => cases x <;> simp only [Oper.upon] at h ⊢ <;> first | exact hQ _ _ _ h | exact h

theorem wpAnyT_free {l : List Oper} {R : List Oper} {A : List Nat} {zo : Nat → TypeId × Array Value} {B : Nat} (hsel : Region.noSelect l.toArray = true)
    (hQ : ∀ c (a : Act) d v w, Q (.panic c) (a.put d v) w ↔ Q (.panic c) a w)
    (hs : Region.sinkB md l.toArray n = true) (hc : Region.chainB md l.toArray n = true) (hn : n < l.length) (hR : R = l.drop n)
    (hap : apartB l.toArray n A = true) (hnd : A.Nodup) (hAn : ∀ j ∈ A, j < n)
    (hA : ∀ j ∈ A, ∀ o, l[j]? = some o → (∀ ys, Region.wanted o ys = true) ∧ ∀ (a : Act) (w : World), (execOp a.eval o).run P w = .ok (.value (.pointer (some ⟨w.heap.size, 0, none⟩))) (w.alloc (.cells (zo j).2 (zo j).1)))
    (hmono : ∀ W W', S W → Below W.heap.size W W' → S W') (hSB : ∀ W, S W → B ≤ W.heap.size) :
    ∀ (f : Nat) (p : List (Nat × Bool)) (rem : List Nat) (listed : Array Bool) (G : Nat → Option Nat) (a : Act) (w : World), HeadInv md l.toArray n listed → planF md l.toArray n f p rem listed = true →
      (∀ j ∈ rem, j ∈ A) → rem.Nodup → (∀ j ∈ A, G j = none ↔ j ∈ rem) → (∀ x ∈ p, x.1 ∉ A) → S w → LaysA zo B A G w →
      wpFree P l.toArray Q S (fun a' => ∀ (G : Nat → Option Nat) (W : World), (∀ j ∈ A, G j ≠ none) → S W → LaysA zo B A G W → wpList P l.toArray Q R (putA l.toArray G A a') W) (p.filterMap fun x => (l[x.1]?).map fun o => (o, x.2)) a →
      wpAnyT P md l.toArray Q S n (f + R.length) listed (putA l.toArray G A a) w := by
  have hQA : ∀ (G : Nat → Option Nat) (A : List Nat) c (a : Act) w, Q (.panic c) a w → Q (.panic c) (putA l.toArray G A a) w := by
    intro G A c a w h
    induction A with
    | nil => exact h
    | cons j A ih =>
      unfold putA
      split
      · exact (hQ _ _ _ _ _).2 ih
      · exact ih
  have hselo : ∀ (j : Nat) (o : Oper), l[j]? = some o → ∀ cs b, o.op ≠ .select cs b := fun j o h cs b => Region.noSelect_spec hsel j o cs b (by simpa using h)
  -- a variable is laid
  have lay : ∀ (j : Nat) (K : Act → World → Prop) (b : Act) (w : World), j ∈ A → K (b.put ((l.toArray[j]?).bind (·.dst)) (.pointer (some ⟨w.heap.size, 0, none⟩))) (w.alloc (.cells (zo j).2 (zo j).1)) → wpOp P l.toArray Q j K b w := by
    intro j K b w hj h
    have hjl : j < l.length := by have := hAn j hj; omega
    have h0 : l[j]? = some l[j] := List.getElem?_eq_getElem hjl
    have h0' : l.toArray[j]? = some l[j] := by simp [h0]
    obtain ⟨hw, hr⟩ := hA j hj _ h0
    unfold wpOp
    simp only [h0', hw, if_true]
    refine .inl ?_
    unfold Oper.wp
    rw [hr, Oper.upon_value]
    simpa [h0'] using h
  intro f
  induction f with
  | zero =>
    intro p rem listed G a w inv hB hrA hrn hG hpA hS hL h
    simp only [planF, Bool.and_eq_true, List.isEmpty_iff] at hB
    obtain ⟨⟨rfl, rfl⟩, hseq⟩ := hB
    simp only [List.filterMap_nil, wpFree] at h
    have hd : R.length = l.toArray.size - n := by rw [hR]; simp
    have := wpAnyT_of_seq (P := P) (Q := Q) (S := S) (n := n) (md := md) (ops := l.toArray) R n listed _ w (Nat.le_refl _) (fun j => by simp [hR, List.getElem?_drop]) (by rw [hd]; exact hseq) (h G w (fun j hj e => by have := (hG j hj).1 e; cases this) hS hL)
    simpa using this
  | succ f ih =>
    intro p rem listed G a w inv hB hrA hrn hG hpA hS hL h
    have put_eq : ∀ j ∈ A, G j = none → ∀ g, (putA l.toArray G A a).put ((l.toArray[j]?).bind (·.dst)) (.pointer (some ⟨g, 0, none⟩)) = putA l.toArray (upd G j (some g)) A a := by
      intro j hj hGj g
      have hjl : j < l.length := by have := hAn j hj; omega
      have h0' : l.toArray[j]? = some l[j] := by simp [List.getElem?_eq_getElem hjl]
      rw [putA_more h0' hj hnd (fun i hi hij y hy d hd => (Oper.apart_spec (apartB_spec hap hi (hAn j hj) (Ne.symm hij) hy h0')).2.1 d hd) hGj]
      simp [h0']
    have step : ∀ j ∈ rem, ∀ (p' : List (Nat × Bool)), (∀ x ∈ p', x.1 ∉ A) → j ∈ Region.ready md l.toArray listed → planF md l.toArray n f p' (rem.erase j) (listed.setIfInBounds j true) = true →
        wpFree P l.toArray Q S (fun a' => ∀ (G : Nat → Option Nat) (W : World), (∀ j ∈ A, G j ≠ none) → S W → LaysA zo B A G W → wpList P l.toArray Q R (putA l.toArray G A a') W) (p'.filterMap fun x => (l[x.1]?).map fun o => (o, x.2)) a →
        wpOp P l.toArray Q j (fun a' w' => (j < n → S w') ∧ wpAnyT P md l.toArray Q S n (f + R.length) (listed.setIfInBounds j true) a' w') (putA l.toArray G A a) w := by
      intro j hj p' hp' hr hB' h'
      have hjA := hrA j hj
      have hGj := (hG j hjA).2 hj
      refine lay j _ _ _ hjA ?_
      have hS' := hmono _ _ hS (al1 w (.cells (zo j).2 (zo j).1))
      rw [put_eq j hjA hGj]
      refine ⟨fun _ => hS', ih p' (rem.erase j) _ _ a _ (inv.set hr (hAn j hjA)) hB' (fun i hi => hrA i (List.mem_of_mem_erase hi)) (hrn.erase j) (fun i hi => ?_) hp' hS' (hL.more (hSB _ hS)) h'⟩
      by_cases e : i = j
      · subst e
        rw [upd_same]
        simp [hrn.mem_erase_iff]
      · rw [upd_other e, hG i hi, hrn.mem_erase_iff]
        exact ⟨fun h => ⟨e, h⟩, fun h => h.2⟩
    rw [show f + 1 + R.length = (f + R.length) + 1 by omega]
    match p, hB, h, hpA with
    | [], hB, h, hpA =>
      simp only [planF, Bool.and_eq_true, Bool.not_eq_true', List.all_eq_true] at hB
      obtain ⟨⟨⟨-, h1⟩, h2⟩, h3⟩ := hB
      refine ⟨fun e => (by rw [e] at h1; cases h1), fun j hj => ?_⟩
      have hjr : j ∈ rem := by simpa using h2 j hj
      have := h3 j hjr
      exact step j hjr [] (fun x hx => by cases hx) hj this.2 h
    | (i, true) :: p, hB, h, hpA =>
      simp only [planF, Bool.and_eq_true, decide_eq_true_eq] at hB
      obtain ⟨⟨⟨hin, hr⟩, hf⟩, hB'⟩ := hB
      have hr' : i ∈ Region.ready md l.toArray listed := by simpa using hr
      have hil : i < l.length := by omega
      have h0 : l[i]? = some l[i] := List.getElem?_eq_getElem hil
      have h0' : l.toArray[i]? = some l[i] := by simp [h0]
      have hiA : i ∉ A := hpA (i, true) (List.mem_cons_self ..)
      have hsp : ∀ j ∈ A, ∀ x, l.toArray[j]? = some x → x.apart l.toArray l[i] = true := fun j hj x hx => apartB_spec hap hj hin (fun e => hiA (e ▸ hj)) hx h0'
      simp only [List.filterMap_cons, h0, Option.map_some, wpFree] at h
      obtain ⟨v, hy, hK⟩ := h
      have hlook := putA_look (G := G) (a := a) (hselo i _ h0) hsp
      have hy' : YieldsIf P l.toArray S l[i] v (putA l.toArray G A a) := hy.of_same hlook.1 hlook.2
      refine wpAnyT_first h0' (Region.noSelect_spec hsel) (fun c a w hq => (hQ c a _ v w).1 hq) hs hc (by simpa using hn) hin _ listed _ w inv (Region.free_spec h0' hf) hr' hy' hS ?_
      rw [← putA_put (fun j hj x hx => (Oper.apart_spec (hsp j hj x hx)).2.1)]
      exact ih p rem _ G _ w (inv.set hr' hin) hB' hrA hrn hG (fun x hx => hpA x (List.mem_cons_of_mem _ hx)) hS hL hK
    | (i, false) :: p, hB, h, hpA =>
      simp only [planF, Bool.and_eq_true, decide_eq_true_eq, List.all_eq_true] at hB
      obtain ⟨⟨⟨⟨hin, hr⟩, hall⟩, hB'⟩, hrem⟩ := hB
      have hr' : i ∈ Region.ready md l.toArray listed := by simpa using hr
      have hil : i < l.length := by omega
      have h0 : l[i]? = some l[i] := List.getElem?_eq_getElem hil
      have h0' : l.toArray[i]? = some l[i] := by simp [h0]
      have hiA : i ∉ A := hpA (i, false) (List.mem_cons_self ..)
      have hsp : ∀ j ∈ A, ∀ x, l.toArray[j]? = some x → x.apart l.toArray l[i] = true := fun j hj x hx => apartB_spec hap hj hin (fun e => hiA (e ▸ hj)) hx h0'
      refine ⟨fun e => (by rw [e] at hr'; cases hr'), fun j hj => ?_⟩
      have hjc := hall j hj
      simp only [Bool.or_eq_true, beq_iff_eq] at hjc
      by_cases hji : j = i
      · subst hji
        simp only [List.filterMap_cons, h0, Option.map_some, wpFree] at h
        have hw := h w hS
        have hlook := putA_look (G := G) (a := a) (hselo j _ h0) hsp
        have hdst : ∀ k ∈ A, ∀ x, l.toArray[k]? = some x → ∀ d, x.dst = some d → l[j].dst ≠ some d := fun k hk x hx => (Oper.apart_spec (hsp k hk x hx)).2.1
        have hpA' : ∀ x ∈ p, x.1 ∉ A := fun x hx => hpA x (List.mem_cons_of_mem _ hx)
        unfold wpOp
        simp only [h0']
        rw [hlook.2]
        split at hw
        · rename_i hwt
          rw [if_pos hwt]
          refine .inl ?_
          unfold Oper.wp at hw ⊢
          rw [hlook.1]
          refine upon_putA hdst (hQA G A) (fun a' w' hk => ?_) hw
          exact ⟨fun _ => hmono _ _ hS hk.1, ih p rem _ G a' w' (inv.set hr' hin) hB' hrA hrn hG hpA' (hmono _ _ hS hk.1) (hL.on hk.1) hk.2⟩
        · rename_i hwt
          rw [if_neg hwt, ← putA_put hdst]
          exact ⟨fun _ => hS, ih p rem _ G _ w (inv.set hr' hin) hB' hrA hrn hG hpA' hS hL hw⟩
      · have hjr : j ∈ rem := by simpa using hjc.resolve_left hji
        exact step j hjr _ hpA hj (hrem j hjr).2 h

/-- The beginning. -/
theorem wp_region_free {id : Nat} {a : Act} {w : World} {l : List Oper} (n : Nat) (p : List (Nat × Bool)) (A : List Nat) (zo : Nat → TypeId × Array Value) (B : Nat) (S : World → Prop) (hm : P.follows .mixedOrders = true)
    (hB : (Region.noSelect l.toArray && Region.sinkB .any l.toArray n && Region.chainB .any l.toArray n && decide (n < l.length) && decide (p.length + A.length = n) && apartB l.toArray n A && decide A.Nodup && (A.all fun j => decide (j < n)) && (p.all fun x => !A.contains x.1) && planF .any l.toArray n n p A (Array.replicate l.toArray.size false)) = true)
    (hQ : ∀ c (a : Act) d v w, Q (.panic c) (a.put d v) w ↔ Q (.panic c) a w)
    (hA : ∀ j ∈ A, ∀ o, l[j]? = some o → (∀ ys, Region.wanted o ys = true) ∧ ∀ (a : Act) (w : World), (execOp a.eval o).run P w = .ok (.value (.pointer (some ⟨w.heap.size, 0, none⟩))) (w.alloc (.cells (zo j).2 (zo j).1)))
    (hmono : ∀ W W', S W → Below W.heap.size W W' → S W') (hSB : ∀ W, S W → B ≤ W.heap.size) (hS : S w.drew)
    (h : wpFree P l.toArray Q S (fun a' => ∀ (G : Nat → Option Nat) (W : World), (∀ j ∈ A, G j ≠ none) → S W → LaysA zo B A G W → wpList P l.toArray Q (l.drop n) (putA l.toArray G A a') W) (p.filterMap fun x => (l[x.1]?).map fun o => (o, x.2)) a) : (Code.region id l.toArray true).wp P Q a w := by
  simp only [Bool.and_eq_true, decide_eq_true_eq, List.all_eq_true, Bool.not_eq_true', List.contains_eq_mem, decide_eq_false_iff_not] at hB
  obtain ⟨⟨⟨⟨⟨⟨⟨⟨⟨hsel, hs⟩, hc⟩, hn⟩, hp⟩, hap⟩, hnd⟩, hAn⟩, hpA⟩, hpl⟩ := hB
  have inv0 : HeadInv .any l.toArray n (Array.replicate l.toArray.size false) :=
    ⟨by simp, fun j oj _ hl => (by rw [getD_replicate_false] at hl; cases hl), fun t _ ht => getD_in (by simpa using ht) (getD_replicate_false _ _)⟩
  have e0 : putA l.toArray (fun _ => none) A a = a := by
    clear hA hap hnd hAn hpA hpl hp h
    induction A with
    | nil => rfl
    | cons j A ih => exact ih
  have H := wpAnyT_free (md := .any) (R := l.drop n) (A := A) (zo := zo) (B := B) hsel hQ hs hc hn rfl hap hnd hAn hA hmono hSB n p A _ (fun _ => none) a w.drew inv0 hpl (fun _ h => h) hnd (fun j hj => ⟨fun _ => hj, fun _ => rfl⟩) hpA hS
    ⟨fun j hj g hg => (by cases hg), fun i hi j hj hij g h' hg => (by cases hg)⟩ h
  rw [e0] at H
  have hlen : n + (l.drop n).length = l.toArray.size := by simp; omega
  rw [hlen] at H
  exact wp_region_any hm (wpAny_of_T _ _ _ _ H)

variable {F : Act → Prop} {o : Oper} {p : List (Oper × Bool)} {a : Act}
theorem wpFree_still {v : Value} (hy : YieldsIf P ops S o v a) (h : wpFree P ops Q S F p (a.put o.dst v)) : wpFree P ops Q S F ((o, true) :: p) a := ⟨v, hy, h⟩
theorem wpFree_only (h : ∀ w, S w → ∀ K : Act → World → Prop, Shut (∀ a w', Below w.heap.size w w' → wpFree P ops Q S F p a → K a w') → if Region.wanted o (yielded ops a.tmps) = true then Oper.wp P o a w K Q else K (a.put o.dst undef) w) :
    wpFree P ops Q S F ((o, false) :: p) a := by
  intro w hS
  have h1 := h w hS (fun a' w' => Below w.heap.size w w' ∧ wpFree P ops Q S F p a') (fun a w' hb hW => ⟨hb, hW⟩)
  split
  · rename_i hw; rw [if_pos hw] at h1; exact h1
  · rename_i hw; rw [if_neg hw] at h1; exact h1.2
theorem Env.glue {w0 W : World} {l : List Fb} {g : Nat} {t : TypeId} {cs : Array Value} (h : Env w0 W l) (hg : Has W g t cs) (hb : w0.heap.size ≤ g) (hd : ∀ y ∈ l, y.g < g) : Env w0 W (⟨g, t, cs⟩ :: l) :=
  ⟨h.1, hb, hg, fun y hy => Nat.ne_of_lt (hd y hy), h.2⟩
theorem Env.glue2 {w0 W : World} {l : List Fb} {g g' B : Nat} {t t' : TypeId} {cs cs' : Array Value} (h : Env w0 W l) (hB : w0.heap.size ≤ B) (hd : ∀ y ∈ l, y.g < B) (hg : B ≤ g ∧ Has W g t cs) (hg' : B ≤ g' ∧ Has W g' t' cs') (hne : g ≠ g') : Env w0 W (⟨g, t, cs⟩ :: ⟨g', t', cs'⟩ :: l) :=
  ⟨h.1, Nat.le_trans hB hg.1, hg.2, fun y hy => by
    rcases List.mem_cons.1 hy with rfl | hy
    · exact Ne.symm hne
    · exact Nat.ne_of_lt (Nat.lt_of_lt_of_le (hd y hy) hg.1), Nat.le_trans hB hg'.1, hg'.2, fun y hy => Nat.ne_of_lt (Nat.lt_of_lt_of_le (hd y hy) hg'.1), h.2⟩
theorem LaysA.two {zo : Nat → TypeId × Array Value} {B : Nat} {i j : Nat} {G : Nat → Option Nat} {w : World} (h : LaysA zo B [i, j] G w) (hG : ∀ k ∈ [i, j], G k ≠ none) (hij : i ≠ j) :
    ∃ g g', G i = some g ∧ G j = some g' ∧ (B ≤ g ∧ Has w g (zo i).1 (zo i).2) ∧ (B ≤ g' ∧ Has w g' (zo j).1 (zo j).2) ∧ g ≠ g' := by
  obtain ⟨g, e⟩ := Option.ne_none_iff_exists'.1 (hG i (by simp))
  obtain ⟨g', e'⟩ := Option.ne_none_iff_exists'.1 (hG j (by simp))
  exact ⟨g, g', e, e', h.1 i (by simp) g e, h.1 j (by simp) g' e', h.2 i (by simp) j (by simp) hij g g' e e'⟩
theorem LaysA.one {zo : Nat → TypeId × Array Value} {B : Nat} {i : Nat} {G : Nat → Option Nat} {w : World} (h : LaysA zo B [i] G w) (hG : ∀ k ∈ [i], G k ≠ none) :
    ∃ g, G i = some g ∧ B ≤ g ∧ Has w g (zo i).1 (zo i).2 := by
  obtain ⟨g, e⟩ := Option.ne_none_iff_exists'.1 (hG i (by simp))
  exact ⟨g, e, h.1 i (by simp) g e⟩
theorem wpFree_end (h : F a) : wpFree P ops Q S F [] a := h
end
end Go.Proofs.Ytkgaahmehmbfjaa
