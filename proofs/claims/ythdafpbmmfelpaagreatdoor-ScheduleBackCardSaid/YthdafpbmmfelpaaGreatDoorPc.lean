/- Pieces of the program. -/
import Derived.Test.YthdafpbmmfelpaaGreatDoorBw
import Derived.Test.YthdafpbmmfelpaaGreatDoorTx
import Derived.Sort.CutIn
namespace Go.Proofs.YthdafpbmmfelpaaGreatDoor
open Go.ChangeShapes Go.WideShapes Go.ChangeAt Go.RowKit Go.Shelf
attribute [local go_sem] Oper.semAt_some
set_option linter.unusedVariables false
set_option linter.unusedSimpArgs false

theorem Has.chg {lo hi : Nat} {A B : World} {g : Nat} {t : TypeId} {cs : Array Value} (h : Has A g t cs) (hc : Chg lo hi A B) (hg : g < lo ∨ hi ≤ g) : Has B g t cs := by
  unfold Has; rw [hc.block g h.size_ hg]; exact h
theorem below_obj {B : Nat} {a w : World} (h : Below B a w) {l : Nat} (o : Obj) (hl : B ≤ l) : Below B a (w.putObj l o) :=
  ⟨h.os, h.tape, h.output, by have := h.size; simp; omega, fun k hk => (World.putObj_heap_other (by omega)).trans (h.block k hk)⟩
theorem own_kept {B : Nat} {w w' : World} {e : TypeId} {s : Nat} {v : Value} {n : Nat} {xs : List Value} (h : w.ownsRow B e s v n xs) (hk : ∀ k, k < w.heap.size → B ≤ k → w'.heap[k]? = w.heap[k]?) : w'.ownsRow B e s v n xs := by
  have k := World.ownsRow.lt h
  obtain ⟨hl, h0 | ⟨g, cap, cur, rfl, hB, hg, r⟩⟩ := h
  · exact ⟨hl, .inl h0⟩
  · have := k g rfl
    exact ⟨hl, .inr ⟨g, cap, cur, rfl, hB, by rw [hk g this.2 hB]; exact hg, r⟩⟩
theorem Has.kps {S : Nat → Prop} {A B : World} {g : Nat} {t : TypeId} {cs : Array Value} (h : Has A g t cs) (hk : Kps S A B) (hs : S g) : Has B g t cs := by
  unfold Has; rw [hk.block g h.size_ hs]; exact h
theorem own_kps {B : Nat} {w w' : World} {e : TypeId} {s : Nat} {v : Value} {n : Nat} {xs : List Value} (h : w.ownsRow B e s v n xs) (hk : ∀ k, v.ownBlock = some k → w'.heap[k]? = w.heap[k]?) : w'.ownsRow B e s v n xs := by
  obtain ⟨hl, h0 | ⟨g, cap, cur, rfl, hB, hg, r⟩⟩ := h
  · exact ⟨hl, .inl h0⟩
  · exact ⟨hl, .inr ⟨g, cap, cur, rfl, hB, by rw [hk g rfl]; exact hg, r⟩⟩
structure StopN (p : Prop) : Prop where
  out : p
theorem info49 : (Tryz.prog.info? 49).map (fun i => (i.zero, i.size, i.bytes)) = some (some (.agg #[.int .i64 0, .int .i64 0]), 2, 16) := by kernel_rfl
set_option maxHeartbeats 8000000 in
set_option maxRecDepth 100000 in
theorem Pieces_no (p : Option Addr) (l : List Bar) (cap : Nat) (d : Int) (w : World) (hS : Slb w p l cap) (hv : validL l = false) :
    Calls Tryz.prog 23 #[.slice p l.length cap, .int .i64 d] w fun e w' => e = .returned (.tuple #[.slice none 0 0, .int .i64 1]) ∧ Below w.heap.size w w' := by
  have h15 := Valid_list p l cap w hS
  rw [hv] at h15
  go_enter Tryz.func23, Tryz.ntmps23
  go_wp2_with (go_at_call 15; (with_reducible refine h15.mono ?_); rintro X wq ⟨rfl, hb⟩)
  exact bodyPost_ret (v := .tuple #[.slice none 0 0, .int .i64 1]) (by simp [results, Tryz.results23, go_sem]) rfl ⟨rfl, hb⟩
set_option maxHeartbeats 8000000 in
set_option maxRecDepth 100000 in
theorem Pieces_kind (p : Option Addr) (l : List Bar) (cap : Nat) (d : Int) (w : World) (hS : Slb w p l cap) (hv : validL l = true) (hd : isz d = false) :
    Calls Tryz.prog 23 #[.slice p l.length cap, .int .i64 d] w fun e w' => e = .returned (.tuple #[.slice none 0 0, .int .i64 11]) ∧ Below w.heap.size w w' := by
  have h15 := Valid_list p l cap w hS
  have h50 := fun W => isz_any d W
  rw [hv] at h15
  rw [hd] at h50
  go_enter Tryz.func23, Tryz.ntmps23
  go_wp2_with (first | (go_at_call 15; (with_reducible refine h15.mono ?_); rintro X wq ⟨rfl, hb⟩) | (go_at_call 50; (with_reducible refine (h50 _).mono ?_); rintro X wz ⟨rfl, hb2⟩))
  exact bodyPost_ret (v := .tuple #[.slice none 0 0, .int .i64 11]) (by simp [results, Tryz.results23, go_sem]) rfl ⟨rfl, belows hb hb2⟩
/-- What lies between two lengths. -/
structure Pin (w : World) (ob mb n B : Nat) (l : List Bar) (d : Int) (pre : List (Nat × Int)) (W : World) : Prop where
  ex : ∃ v, Has W ob 43 #[v] ∧ Own sc 49 2 B W v (pre.map fun x => (x.2, kct l d x.2))
  mp : Mpk W mb n l d
  mc : Has W (mb + 1) 87 #[.map (some mb)]
  hb : Below w.heap.size w W
theorem Mpk.chg {lo hi : Nat} {A B : World} {g n : Nat} {l : List Bar} {d : Int} (h : Mpk A g n l d) (hc : Chg lo hi A B) (hg : g < lo ∨ hi ≤ g) : Mpk B g n l d := h.same (hc.block g h.lt hg)
theorem Pin.abd {w : World} {ob mb n : Nat} {l : List Bar} {d : Int} {lo hi : Nat} (h1 : ob < lo) (h2 : mb + 1 < lo) (hw : w.heap.size ≤ lo) : Abd lo hi (Pin w ob mb n hi l d) := fun pre W W' C hc => by
  obtain ⟨v, c, o⟩ := C.ex
  exact ⟨⟨v, c.chg hc (.inl h1), own_kept o fun k hk hB => hc.block k hk (.inr hB)⟩, C.mp.chg hc (.inl (by omega)), C.mc.chg hc (.inl h2), C.hb.trans (hc.below hw C.hb.size)⟩
set_option maxHeartbeats 8000000 in
set_option maxRecDepth 100000 in
theorem Pieces_ok (p : Option Addr) (l : List Bar) (cap : Nat) (d : Int) (w : World) (hS : Slb w p l cap) (hv : validL l = true) (hd : isz d = true) :
    Calls Tryz.prog 23 #[.slice p l.length cap, .int .i64 d] w fun e w' => ∃ v, e = .returned (.tuple #[v, .int .i64 0]) ∧ Own sc 49 2 w.heap.size w' v (pcs l d) ∧ Below w.heap.size w w' := by
  have h15 := Valid_list p l cap w hS
  have h50 := fun W => isz_any d W
  rw [hv] at h15
  rw [hd] at h50
  obtain ⟨hl, hvb⟩ := valid_all hv
  have HV := Lib.hid hvb
  clear hv hvb hd
  refine (callsIn_wide (n := 6)).1 ?_
  refine callsIn_of_wp_marks Tryz.func23 rfl trivial ?_ rfl
  simp only [Tryz.ntmps23, List.size_toArray, List.length_cons, List.length_nil, Nat.reduceAdd, Nat.reduceSub, Array.replicate_succ, Array.replicate_zero, List.push_toArray, List.append_toArray, List.nil_append, List.cons_append]
  have hmm := @run_makeMap Tryz.prog
  have hf15 : Fence.wide.fn 15 := trivial
  have hf50 : Fence.wide.fn 50 := trivial
  have hf51 : Fence.wide.fn 51 := trivial
  have hf52 : Fence.wide.fn 52 := trivial
  have hf53 : Fence.wide.fn 53 := trivial
  have hf54 : Fence.wide.fn 54 := trivial
  gi_upto_region 6 with (first
    | (gi_at_call 15; refine (callsIn_wide.2 h15).mono ?_; rintro X w1 ⟨rfl, hb1⟩)
    | (gi_at_call 50; refine (callsIn_wide.2 (h50 _)).mono ?_; rintro X w2 ⟨rfl, hb2⟩))
  have Hc0 := Has.new_ (w2.alloc (.map #[] 0)) 87 #[.map (some w2.heap.size)]
  have Mp0 := (Mpk.made w2 d).on (al1 (w2.alloc (.map #[] 0)) (.cells #[.map (some w2.heap.size)] 87))
  have B0 := al (al (belows hb1 hb2) (.map #[] 0)) (.cells #[.map (some w2.heap.size)] 87)
  have hsz : (w2.alloc (.map #[] 0)).heap.size = w2.heap.size + 1 := World.size_alloc _ _
  have hmb : w.heap.size ≤ w2.heap.size := (belows hb1 hb2).size
  rw [hsz] at Hc0
  clear hsz hb1 hb2 h15 h50
  generalize (w2.alloc (.map #[] 0)).alloc (.cells #[.map (some w2.heap.size)] 87) = wz at *
  generalize w2.heap.size = mb at *
  gi_wp2
  gi_loopw [23] (fun v wr => ∃ k : Nat, v = .int .i64 k ∧ k ≤ l.length ∧ Has wr (mb + 1) 87 #[.map (some mb)] ∧ Mpk wr mb k (l.take k) d ∧ Below w.heap.size w wr) (fun v _ => l.length - (intOf v).toNat)
  case atStart => exact ⟨0, rfl, Nat.zero_le _, Hc0, Mp0, B0⟩
  case round =>
    clear Hc0 Mp0 B0
    obtain ⟨k, rfl, hk, Hc, Mp, hB⟩ := hrel
    by_cases hlt : k < l.length
    · have g1 : decide ((k : Int) < (l.length : Int)) = true := by simp [hlt]
      have W1 : IntKind.i64.wrap ((k : Int) + 1) = ((k + 1 : Nat) : Int) := by rw [IntWalk.i64_in _ (by omega)]; omega
      have q1 : (0 : Int) ≤ (k : Int) := by omega
      have q2 : (k : Int) < (l.length : Int) := by omega
      obtain ⟨a, rfl, c0, c1, c2, c3, c4⟩ := (hS.on hB).at_ k hlt
      have hmem := List.getElem_mem hlt
      have htk : l.take (k + 1) = l.take k ++ [l[k]] := List.take_succ_eq_append_getElem hlt
      have E := (Env.nil wr).add wr.heap.size 60 l[k].cs rfl
      rw [bcs] at E
      obtain ⟨-, C0, C1, C2, C3, C4⟩ := s_b5 E
      by_cases hsz : l[k].size = d
      · have h51 := fun W (h : Below w.heap.size w W) => Cut_ok l[k] W ((hS.ok _ hmem).on h) (HV.out _ hmem)
        rw [vcs] at h51
        have hcb := cut_bd (HV.out _ hmem)
        have hkb := kct_bd (l := l.take k) d (cutB l[k]) fun b hb => HV.out b (List.mem_of_mem_take hb)
        have hct := (barB_and (HV.out _ hmem)).2.2.2.2.2
        have hlk : (l.take k).length ≤ 60 := by simp; omega
        have W2 : IntKind.i64.wrap (kct (l.take k) d (cutB l[k]) + l[k].count) = kct (l.take k) d (cutB l[k]) + l[k].count := IntWalk.i64_in _ (by omega)
        have g2 : (l[k].size != d) = false := by simp [hsz]
        have HP := Lib.hid (fun (W : World) (h : Mpk W mb k (l.take k) d) => h.put (c := l[k]) hsz (by omega) (by omega) (by omega) rfl (by omega) (by omega))
        have HLk := Lib.hid (fun (W : World) (h : Mpk W mb k (l.take k) d) => h.look (x := cutB l[k]) (by omega) (by omega))
        rw [← htk] at HP
        clear hsz hcb hkb hct
        generalize cutB l[k] = cu at *
        generalize kct (l.take k) d cu = kc at *
        generalize l.take k = tk at *
        generalize htk1 : l.take (k + 1) = tk1 at *
        generalize l[k].size = sz at *
        generalize l[k].count = ct at *
        generalize l[k].mark = mk at *
        generalize l[k].code = cd at *
        generalize l[k].ds.length = dl at *
        generalize l[k].cap = dc at *
        generalize l[k].p = dp at *
        have HE := Lib.hid E
        have HB := Lib.hid hB
        have HH := Lib.hid (And.intro Hc Mp)
        clear E Hc Mp hB
        have HNext : Hid (∀ (wq w5 : World), Below (wr.alloc (.cells #[.string mk, .int .i64 sz, .int .i64 ct, .int .i64 cd, .slice dp dl dc] 60)).heap.size (wr.alloc (.cells #[.string mk, .int .i64 sz, .int .i64 ct, .int .i64 cd, .slice dp dl dc] 60)) wq → wq.grownBy w5 (some mb) → Has w5 (mb + 1) 87 #[.map (some mb)] ∧ Below w.heap.size w w5) := Lib.hid fun wq w5 hb hg => by
          have hB2 := envbb HB.out (HE.out.on hb)
          exact ⟨((HH.out.1.on (al1 _ _)).on hb).grown_ hg (by simp), hB2.grown hg hB2.size (fun j hj => by cases hj; exact hmb)⟩
        gi_wp2_with (gi_at_call 51; (with_reducible refine (callsIn_wide.2 (h51 _ (envbb HB.out HE.out))).mono ?_); rintro X wq ⟨rfl, hb⟩; have E2 := HE.out.on hb; obtain ⟨-, D0, D1, D2, D3, D4⟩ := s_b5 E2; have Hq := (HH.out.1.on (al1 _ _)).on hb; have Mq := (HH.out.2.on (al1 _ _)).on hb; have R1 := Hq.read 0; have R2 := HLk.out _ Mq; obtain ⟨w5, R3, M5, hg5⟩ := HP.out _ Mq; obtain ⟨H5, B5⟩ := HNext.out _ _ hb hg5; have HM5 := Lib.hid M5; have HH5 := Lib.hid H5; have HB5 := Lib.hid B5; clear E2 Hq Mq M5 H5 B5 hg5 hb)
        exact ⟨⟨k + 1, rfl, hlt, HH5.out, (by rw [htk1]; exact HM5.out), HB5.out⟩, by simp [intOf]; omega⟩
      · have g2 : (l[k].size != d) = true := by simp [hsz]
        have HN : Hid (Has (wr.alloc (.cells #[.string l[k].mark, .int .i64 l[k].size, .int .i64 l[k].count, .int .i64 l[k].code, .slice l[k].p l[k].ds.length l[k].cap] 60)) (mb + 1) 87 #[.map (some mb)] ∧ Mpk (wr.alloc (.cells #[.string l[k].mark, .int .i64 l[k].size, .int .i64 l[k].count, .int .i64 l[k].code, .slice l[k].p l[k].ds.length l[k].cap] 60)) mb (k + 1) (l.take (k + 1)) d ∧ Below w.heap.size w (wr.alloc (.cells #[.string l[k].mark, .int .i64 l[k].size, .int .i64 l[k].count, .int .i64 l[k].code, .slice l[k].p l[k].ds.length l[k].cap] 60))) := Lib.hid ⟨Hc.on (al1 _ _), by rw [htk]; exact (Mp.on (al1 _ _)).skip hsz, envbb hB E⟩
        clear hsz htk E Hc Mp hB
        generalize l[k].size = sz at *
        generalize l[k].count = ct at *
        generalize l[k].mark = mk at *
        generalize l[k].code = cd at *
        generalize l[k].ds.length = dl at *
        generalize l[k].cap = dc at *
        generalize l[k].p = dp at *
        gi_wp2
        exact ⟨⟨k + 1, rfl, hlt, HN.out.1, HN.out.2.1, HN.out.2.2⟩, by simp [intOf]; omega⟩
    · have g1 : decide ((k : Int) < (l.length : Int)) = false := by simp; omega
      have e : l.take k = l := List.take_of_length_le (by omega)
      obtain rfl : k = l.length := by omega
      rw [e] at Mp
      clear e hk hlt
      have HB := Lib.hid hB
      gi_upto_region 16 with fail
      have Hc2 := Hc.on (al1 wr (.cells #[.slice none 0 0] 43))
      have Mp2 := Mp.on (al1 wr (.cells #[.slice none 0 0] 43))
      have B2 := al hB (.cells #[.slice none 0 0] 43)
      have Ho := Has.new_ wr 43 #[.slice none 0 0]
      have hlt2 : mb + 1 < wr.heap.size := Hc.size_
      have hz2 : (wr.alloc (.cells #[.slice none 0 0] 43)).heap.size = wr.heap.size + 1 := World.size_alloc _ _
      clear Hc Mp hB HB
      generalize wr.alloc (.cells #[.slice none 0 0] 43) = wo at *
      generalize wr.heap.size = ob at *
      have R0 := Hc2.read 0
      have h54 := Tryz.keys_map (some mb) wo
      have h53 := Mp2.keys HV.out (by omega)
      have hpl := pcK_le l d HV.out
      have HKb : Hid (∀ x ∈ pcK l d, 0 ≤ x ∧ x ≤ 1048576) := Lib.hid fun x hx => by
        obtain ⟨b, hb, e⟩ := List.any_eq_true.1 ((pcK_mem HV.out).1 hx)
        unfold inC at e
        simp only [Bool.and_eq_true, beq_iff_eq] at e
        have := cut_bd (HV.out b hb)
        omega
      have HPC := Lib.hid (show pcs l d = (pcK l d).map fun x => (x, kct l d x) from rfl)
      generalize pcK l d = ks at *
      have hkl : ks.reverse.length ≤ 60 := by rw [List.length_reverse]; omega
      generalize hzs : ks.reverse = zs at *
      have hz3 : (wo.alloc (.cells #[.map (some mb)] 87)).heap.size = wo.heap.size + 1 := World.size_alloc _ _
      have HH2 := Lib.hid (And.intro Hc2 (And.intro Mp2 (And.intro B2 Ho)))
      have HZ := Lib.hid (And.intro hz2 hz3)
      clear Hc2 Mp2 B2 Ho hz2 hz3
      gi_wp2_with (first
        | (gi_at_call 54; (with_reducible refine (callsIn_wide.2 h54).mono ?_); rintro X wk ⟨rfl, rfl⟩)
        | (gi_at_call 53; (with_reducible refine (callsIn_wide.2 h53).mono ?_); rintro X ws ⟨v, rfl, hO, hb⟩; obtain ⟨q, c, rfl, -⟩ := hO.rdz)
        | (gi_at_call 52; (with_reducible refine (callsIn_wide.2 (back_any _ _ _ ws)).mono ?_); rintro X wk ⟨rfl, rfl⟩))
      obtain ⟨Hc2, Mp2, B2, Ho⟩ := HH2.out
      obtain ⟨hz2, hz3⟩ := HZ.out
      clear HH2 HZ h54 h53 R0
      have b1 := belows (al1 wo (.cells #[.map (some mb)] 87)) hb
      have b2 := belows b1 (al1 ws (.cells #[.slice q zs.length c] 58))
      have hO2 : OwnI (wo.heap.size + 1) (ws.alloc (.cells #[.slice q zs.length c] 58)) (.slice q zs.length c) zs := by
        have := own_on hO (al1 ws (.cells #[.slice q zs.length c] 58))
        rw [hz3] at this
        exact this
      have Hg := Has.new_ ws 58 #[.slice q zs.length c]
      have Hc3 := Hc2.on b2
      have Mp3 := Mp2.on b2
      have Ho3 := Ho.on b2
      have B3 := belows B2 b2
      have hz4 : (ws.alloc (.cells #[.slice q zs.length c] 58)).heap.size = ws.heap.size + 1 := World.size_alloc _ _
      have hsz4 := hb.size
      have hsz2 := B2.size
      clear hb b1 b2 hO Hc2 Mp2 Ho B2
      generalize ws.alloc (.cells #[.slice q zs.length c] 58) = V at *
      generalize ws.heap.size = g at *
      have hlo := World.ownsRow.lt hO2
      rw [hz3] at hsz4
      refine wpIn_range_own 0 (by omega) (gf := 88) (ba := #[]) (lb := #[.pointer (some ⟨g, 0, none⟩)]) rfl (enters_of Tryz.func88 (by kernel_rfl) rfl) (encs := enc2)
        (fun k => k < V.heap.size ∧ k ≠ ob) (bkn zs zs.length) (fun _ => rfl)
        (fun W hW hbW => back_yields _ g (.slice q zs.length c) zs (by omega) _ W (fun W' hk => ⟨((Hg.on hbW).kps hk ⟨by omega, by omega⟩).read 0, OwnI.rdz (own_kps (own_on hO2 hbW) fun k hk2 => hk.block k (by have := hlo k hk2; have := hbW.size; omega) ⟨(hlo k hk2).2, by have := hlo k hk2; omega⟩)⟩))
        (Pin w ob mb l.length (V.heap.size + (0 + 2)) l d) (fun _ _ _ => False)
        (Pin.abd (by omega) (by omega) B3.size) (fun _ _ _ _ h _ => h)
        ⟨⟨_, Ho3, World.ownsRow_nil _ _ _ _⟩, Mp3, Hc3, B3⟩ ?round (fun k hk => hk.1) ?done (fun _ _ _ _ _ h _ => h.elim)
      case round =>
        clear Ho3 Mp3 Hc3 Hg hO2 hlo
        rintro L pre x rest W hxs C hsz
        obtain ⟨xi, xz⟩ := x
        have hlen : Hid (pre.length ≤ 60) := Lib.hid (by
          have h1 := congrArg List.length hxs
          rw [bkn_len] at h1
          simp at h1; omega)
        have hxb : Hid (0 ≤ xz ∧ xz ≤ 1048576) := Lib.hid (by
          have h1 := bkn_mem (zs := zs) (m := zs.length) (x := (xi, xz)) (Nat.le_refl _) (by rw [hxs]; simp)
          exact HKb.out xz (by rw [← List.mem_reverse, hzs]; exact h1))
        have hmp : Hid ((pre ++ [(xi, xz)]).map (fun x => (x.2, kct l d x.2)) = pre.map (fun x => (x.2, kct l d x.2)) ++ [(xz, kct l d xz)]) := Lib.hid (by rw [List.map_append]; rfl)
        have hpl2 : (pre.map (fun x => (x.2, kct l d x.2))).length = pre.length := List.length_map _
        simp only [enc2]
        gi_wp2
        refine ⟨Kps.refl _ _, fun w3 hc hz3' => ?_⟩
        have C1 := Pin.abd (lo := V.heap.size) (hi := V.heap.size + (0 + 2)) (show ob < V.heap.size by omega) (show mb + 1 < V.heap.size by omega) B3.size _ _ _ C (hc.wide (by omega) (by omega))
        clear hc C hxs
        have HZ3 := Lib.hid hz3'
        have HW3 := Lib.hid hsz
        clear hz3' hsz
        obtain ⟨v, c, o⟩ := C1.ex
        obtain ⟨i0, hi, hz0, hz1, hz2'⟩ := info_parts info49
        have R : w3.cell? ⟨ob, 0, none⟩ = some v := c.read 0
        have R2 : w3.cell? ⟨mb + 1, 0, none⟩ = some (.map (some mb)) := C1.mc.read 0
        have R3 := C1.mp.look (x := xz) (by have := hxb.out; omega) (by have := hxb.out; omega)
        have f := c.open_ 0
        generalize hkc : kct l d xz = kc at *
        have HN := Has.new_ w3 49 #[.int .i64 xz, .int .i64 kc]
        have ho := own_on o (al1 w3 (.cells #[.int .i64 xz, .int .i64 kc] 49))
        have hcl : ∀ (j : Nat) (u : Value), [Value.int .i64 xz, Value.int .i64 kc][j]? = some u → (w3.alloc (.cells #[.int .i64 xz, .int .i64 kc] 49)).cell? ((⟨w3.heap.size, 0, none⟩ : Addr).add j) = some u := fun j u h => by
          rw [Addr.add_lit, Nat.zero_add, HN.read j]
          simpa using h
        have Ha := c.on (al1 w3 (.cells #[.int .i64 xz, .int .i64 kc] 49))
        have Hm := C1.mc.on (al1 w3 (.cells #[.int .i64 xz, .int .i64 kc] 49))
        have Mm := C1.mp.on (al1 w3 (.cells #[.int .i64 xz, .int .i64 kc] 49))
        have KN := Kps.alloc (S := fun k => (k < V.heap.size ∧ k ≠ ob) ∨ V.heap.size ≤ k ∧ k < V.heap.size + (0 + 2)) w3 (.cells #[.int .i64 xz, .int .i64 kc] 49)
        have BN := C1.hb.alloc C1.hb.size (.cells #[.int .i64 xz, .int .i64 kc] 49)
        have hbk := World.ownsRow.lt o
        have hob : ob < V.heap.size := by omega
        have hmb2 : mb + 1 < V.heap.size := by omega
        have hmo : mb + 1 < ob := hlt2
        have hwo : w.heap.size ≤ ob := by omega
        have HHs := Lib.hid (And.intro Ha (And.intro KN (And.intro BN (And.intro hbk (And.intro Hm (And.intro Mm (And.intro hob (And.intro hmb2 (And.intro hmo hwo)))))))))
        clear Ha KN BN hbk HN Hm Mm C1 B3 hsz4 hsz2 hz4 hz3 hz2 hlt2 hmb hob hmb2 hmo hwo
        gi_wp2_with (gi_at_builtin; refine StopN.out ?_)
        refine StopN.mk ?_
        refine wpListIn_append_own _ rfl _ _ 43 rfl (V.heap.size + (0 + 2)) 49 i0 _ 2 16 Tryz.underlying43 hi hz0 hz1 hz2' rfl (by decide) _ _ _ rfl ho _ 1 1 [.int .i64 xz, .int .i64 kc] rfl rfl hcl (by simp [Value.oneCell']) ?hb1 ?hb2 ?hb3 ?_
        case hb1 => have := hlen.out; rw [hpl2]; unfold maxLen; omega
        case hb2 => have := hlen.out; rw [hpl2]; omega
        case hb3 => have := HZ3.out; have := HW3.out; simp; omega
        intro v' w5 hown' hgrow hnil
        obtain ⟨g', cap', rfl⟩ := ownsRow_succ hown'
        obtain ⟨Ha, KN, BN, hbk, Hm, Mm, hob, hmb2, hmo, hwo⟩ := HHs.out
        have hne : ∀ b, b < V.heap.size + (0 + 2) → some b ≠ v.ownBlock := fun b hb e => by have := hbk _ e.symm; omega
        have D := Ha.grown_ hgrow (hne _ (by omega))
        have D2 := Hm.grown_ hgrow (hne _ (by omega))
        have D3 : Mpk w5 mb l.length l d := Mm.same (hgrow.block mb Mm.lt (hne _ (by omega)))
        have BG := BN.grown hgrow BN.size (fun k e => (by have := hbk _ e; omega))
        have KG := KN.trans (Kps.grown hgrow (fun k e => (by have := hbk _ e; intro h; rcases h with h | h <;> omega)))
        have r8 : w5.cell? ⟨ob, 0, none⟩ = some v := D.read 0
        have g8 := D.open_ 0
        have HD := Lib.hid (And.intro D (And.intro BG (And.intro KG (And.intro hown' (And.intro D2 (And.intro D3 (And.intro hmo (And.intro hwo hob))))))))
        clear D BG KG hown' Ha KN BN hbk hne hgrow hnil ho hcl HHs c o f R R2 R3 D2 D3 Hm Mm hob hmb2 hmo hwo
        gi_wp2
        obtain ⟨D, BG, KG, hown', D2, D3, hmo, hwo, hob⟩ := HD.out
        refine ⟨KG.trans (Kps.put _ ⟨ob, 0, none⟩ _ (fun h => by rcases h with h | h <;> simp at h <;> omega)), ⟨⟨_, D.put_ 0 _, ?_⟩, D3.same (Below.heap_setCell _ _ _ _ (by show mb ≠ ob; omega)), D2.apart_ (show mb + 1 ≠ ob by omega) _, BG.setCell (p := ⟨ob, 0, none⟩) hwo _⟩⟩
        rw [hmp.out]
        have ho5 : Own sc 49 2 (V.heap.size + (0 + 2)) w5 (.slice (some ⟨g', 0, none⟩) ((pre.map (fun x => (x.2, kct l d x.2))).length + 1) cap') (pre.map (fun x => (x.2, kct l d x.2)) ++ [(xz, kc)]) := own_snoc hown'
        rw [hpl2] at ho5
        refine own_kept ho5 fun k hk hB => ?_
        rw [Below.heap_setCell _ _ _ _ (show k ≠ ob by omega)]
      case done =>
        rintro W C hK
        obtain ⟨v, c, o⟩ := C.ex
        have R : W.cell? ⟨ob, 0, none⟩ = some v := c.read 0
        have HC := Lib.hid C
        have HO := Lib.hid o
        have HL := Lib.hid (And.intro hsz4 (And.intro hsz2 (And.intro hz4 (And.intro hz2 B3.size))))
        clear C c o Ho3 Mp3 Hc3 Hg hO2 hlo B3 hsz4 hsz2 hz4 hz3 hz2
        gi_wp2
        refine ⟨by simp, .inl ⟨_, _, rfl, run_takeDeferred hK, ?_⟩⟩
        obtain ⟨hsz4, hsz2, hz4, hz2, hVw⟩ := HL.out
        have e2 : (bkn zs zs.length).map (fun x => (x.2, kct l d x.2)) = pcs l d := by
          rw [HPC.out, show (fun x : Nat × Int => (x.2, kct l d x.2)) = (fun x => (x, kct l d x)) ∘ Prod.snd from rfl, ← List.map_map, bkn_snd, ← hzs, List.reverse_reverse]
        refine ⟨.tuple #[v, .int .i64 0], by simp [results, Tryz.results23, go_sem], v, rfl, ?_, below_obj HC.out.hb _ (by omega)⟩
        rw [← e2]
        refine Own.mono (B' := w.heap.size) (B := V.heap.size + (0 + 2)) (own_kept HO.out fun k hk hB => ?_) (by omega)
        exact World.putObj_heap_other (by omega)
end Go.Proofs.YthdafpbmmfelpaaGreatDoor
