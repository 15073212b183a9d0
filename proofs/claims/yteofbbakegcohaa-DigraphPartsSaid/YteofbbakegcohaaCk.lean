/- Check: whether a list is an order. -/
import Derived.Test.YteofbbakegcohaaRep
namespace Go.Proofs.Yteofbbakegcohaa
open Go.ChangeShapes Go.WideShapes Go.ChangeAt Go.RowKit
set_option linter.unusedVariables false
set_option linter.unusedSimpArgs false


theorem ixo_bd (zs : List Int) (x : Int) : -1 ≤ ixo zs x ∧ ixo zs x < zs.length := by
  unfold ixo
  cases h : zs.findIdx? (· == x) with
  | some i =>
    obtain ⟨hi, -, -⟩ := List.findIdx?_eq_some_iff_getElem.1 h
    simp only; omega
  | none => simp only; omega
theorem ixo_not {zs : List Int} {x : Int} (h : x ∉ zs) : ixo zs x = -1 := by
  have k := ixo_pos zs x
  have b := ixo_bd zs x
  have : zs.contains x = false := by simpa using h
  rw [this] at k
  have := of_decide_eq_false k
  omega
theorem ixo_mem {zs : List Int} {x : Int} (h : x ∈ zs) : 0 ≤ ixo zs x := by
  have k := ixo_pos zs x
  have : zs.contains x = true := by simpa using h
  rw [this] at k
  exact of_decide_eq_true k
theorem ixo_snoc (zs : List Int) (y x : Int) (hy : y ∉ zs) : ixo (zs ++ [y]) x = if x = y then (zs.length : Int) else ixo zs x := by
  by_cases h : x = y
  · subst h
    rw [if_pos rfl]
    refine findIdx_some (k := zs.length) (by simp) (fun j hj hjk e => ?_) (by simp)
    rw [List.getElem_append_left hjk] at e
    exact hy (e ▸ List.getElem_mem hjk)
  · rw [if_neg h]
    unfold ixo
    rw [List.findIdx?_append]
    cases hz : zs.findIdx? (· == x) with
    | some i => rfl
    | none => simp [Ne.symm h]
def codeN (n : Int) (os : List Int) : Int := if (os.length : Int) ≠ n then 3 else if os.any (outN n) = true then 2 else if os.Nodup then 0 else 10
def chB (l : List (Int × Int)) (os : List Int) : Bool := l.all fun e => decide (ixo os e.1 < ixo os e.2)
/-- A row that holds the place of each node. -/
theorem take_nodup {os : List Int} {k : Nat} (hk : k < os.length) (h : (os.take k).Nodup) (hy : os[k] ∉ os.take k) : (os.take (k + 1)).Nodup := by
  rw [List.take_succ_eq_append_getElem hk, List.nodup_append]
  exact ⟨h, by simp, fun a ha b hb => by simp at hb; subst hb; rintro rfl; exact hy ha⟩
theorem not_nodup {os : List Int} {k : Nat} (hk : k < os.length) (hy : os[k] ∈ os.take k) : ¬ os.Nodup := by
  intro h
  have e : os = os.take k ++ os.drop k := (List.take_append_drop k os).symm
  rw [e, List.nodup_append] at h
  refine h.2.2 _ hy _ ?_ rfl
  rw [List.drop_eq_getElem_cons hk]; exact List.mem_cons_self
theorem ixo_take {os : List Int} {k : Nat} (hk : k < os.length) (hy : os[k] ∉ os.take k) (x : Int) : ixo (os.take (k + 1)) x = if x = os[k] then (k : Int) else ixo (os.take k) x := by
  rw [List.take_succ_eq_append_getElem hk, ixo_snoc _ _ _ hy, List.length_take, Nat.min_eq_left (by omega)]
theorem repeat_ex (x : Int) (g0 n : Nat) (w : World) (hn : n ≤ 1000) (hx : w.cell? ⟨g0, 0, none⟩ = some (.int .i64 x)) :
    Calls Try.prog 46 #[.slice (some ⟨g0, 0, none⟩) 1 1, .int .i64 n] w fun e w' => ∃ g, e = .returned (.slice (some ⟨g, 0, none⟩) n n) ∧ w.heap.size ≤ g ∧ Row w' g n (fun _ => x) ∧ Below w.heap.size w w' :=
  (repeat_any x g0 n w hn hx).mono fun e w' h => ⟨_, h.1, Nat.le_refl _, h.2⟩
def badE (f : Nat → Int) (e : Int × Int) : Bool := decide (f e.2.toNat ≤ f e.1.toNat)
set_option maxRecDepth 100000 in
theorem clo47 (x y : Nat) (P g n : Nat) (f : Nat → Int) (w : World) (hP : w.cell? ⟨P, 0, none⟩ = some (.slice (some ⟨g, 0, none⟩) n n)) (hR : Row w g n f) (hx : x < n) (hy : y < n) :
    Calls Try.prog 47 #[.agg #[.int .i64 x, .int .i64 y], .pointer (some ⟨P, 0, none⟩)] w fun e w' => e = .returned (.bool (badE f (x, y))) ∧ Below w.heap.size w w' := by
  have C := Has.new_ w 42 #[.int .i64 (x : Int), .int .i64 (y : Int)]
  have C0 := C.read 0
  have C1 := C.read 1
  have b1 := al1 w (.cells #[.int .i64 (x : Int), .int .i64 (y : Int)] 42)
  have cP := cell_later b1 hP
  have cx := cell_later b1 (hR.read hx)
  have cy := cell_later b1 (hR.read hy)
  have q1 : (0 : Int) ≤ (x : Int) := by omega
  have q2 : (x : Int) < (n : Int) := by omega
  have q3 : (0 : Int) ≤ (y : Int) := by omega
  have q4 : (y : Int) < (n : Int) := by omega
  have he : badE f (x, y) = decide (f y ≤ f x) := rfl
  rw [he]
  obtain ⟨zx, hzx⟩ : ∃ z, z = f x := ⟨_, rfl⟩
  obtain ⟨zy, hzy⟩ : ∃ z, z = f y := ⟨_, rfl⟩
  rw [← hzx] at cx ⊢
  rw [← hzy] at cy ⊢
  clear hzx hzy he hR C hP
  go_enter Try.func47, Try.ntmps47
  go_wp2_with fail
  go_quiet (fail)
  go_wp2
  go_ret
  exact ⟨rfl, below_drewN b1 _⟩
def inN (n : Nat) (l : List (Nat × Nat)) : Prop := ∀ x ∈ l, x.1 < n ∧ x.2 < n
def anyBad (f : Nat → Int) (l : List (Nat × Nat)) : Bool := l.any fun e => decide (f e.2 ≤ f e.1)
theorem anyBad_yes {f : Nat → Int} {l : List (Nat × Nat)} {k : Nat} (hk : k < l.length) (h : decide (f l[k].2 ≤ f l[k].1) = true) : anyBad f l = true := List.any_eq_true.2 ⟨_, List.getElem_mem hk, h⟩
set_option maxRecDepth 100000 in
theorem idx47 (p : Option Addr) (l : List (Nat × Nat)) (cap P g n : Nat) (f : Nat → Int) (w : World) (hS : Gr w p n l) (hP : w.cell? ⟨P, 0, none⟩ = some (.slice (some ⟨g, 0, none⟩) n n)) (hR : Row w g n f) :
    Calls Try.prog 60 #[.slice p l.length cap, .func (.func 47) #[] #[.pointer (some ⟨P, 0, none⟩)]] w fun e w' => ∃ i : Int, e = .returned (.int .i64 i) ∧ decide (0 ≤ i) = anyBad f l ∧ Below w.heap.size w w' := by
  have hm := hS.2.1
  go_enter Try.func60, Try.ntmps60
  go_wp2
  go_loopw [8] (fun v wr => ∃ k : Nat, v = .int .i64 k ∧ k ≤ l.length ∧ Hid (∀ x ∈ l.take k, decide (f x.2 ≤ f x.1) = false) ∧ Below w.heap.size w wr) (fun v _ => l.length - (intOf v).toNat)
  case atStart => exact ⟨0, rfl, Nat.zero_le _, Lib.hid (by simp), Below.refl _ _⟩
  case round =>
    obtain ⟨k, rfl, hk, hG, hB⟩ := hrel
    by_cases hlt : k < l.length
    · have g1 : decide ((k : Int) < (l.length : Int)) = true := by simp [hlt]
      obtain ⟨a, rfl, c0, c1, l1, l2⟩ := (hS.on hB).at hlt
      have W1 : IntKind.i64.wrap ((k : Int) + 1) = ((k + 1 : Nat) : Int) := by rw [IntWalk.i64_in _ (by omega)]; omega
      have hb := clo47 l[k].1 l[k].2 P g n f wr (cell_later hB hP) (Row.on hR hB) l1 l2
      have HT : Hid (∀ x ∈ l.take (k + 1), x ∈ l.take k ∨ x = l[k]) := Lib.hid fun x hx => by
        rw [List.take_succ_eq_append_getElem hlt, List.mem_append] at hx
        rcases hx with hx | hx
        · exact .inl hx
        · exact .inr (List.mem_singleton.1 hx)
      have HY := Lib.hid (fun h => anyBad_yes (f := f) hlt h)
      have he : badE f ((l[k].1 : Nat), (l[k].2 : Nat)) = decide (f l[k].2 ≤ f l[k].1) := rfl
      rw [he] at hb
      clear he
      cases hv : decide (f l[k].2 ≤ f l[k].1)
      · have HG : Hid (∀ x ∈ l.take (k + 1), decide (f x.2 ≤ f x.1) = false) := Lib.hid fun x hx => by
          rcases HT.out x hx with h | h
          · exact hG.out x h
          · rw [h]; exact hv
        rw [hv] at hb
        clear hv
        go_wp2_with (go_at_call 47; (with_reducible refine hb.mono ?_); rintro e1 w1 ⟨rfl, hb1⟩)
        exact ⟨⟨k + 1, rfl, hlt, HG, belows hB hb1⟩, by simp [intOf]; omega⟩
      · have HE := Lib.hid (HY.out hv)
        rw [hv] at hb
        clear hv
        go_wp2_with (go_at_call 47; (with_reducible refine hb.mono ?_); rintro e1 w1 ⟨rfl, hb1⟩)
        go_ret
        exact ⟨_, rfl, by rw [HE.out]; simp, belows hB hb1⟩
    · have g1 : decide ((k : Int) < (l.length : Int)) = false := by simp; omega
      have HE : Hid (anyBad f l = false) := Lib.hid (List.any_eq_false.2 fun x hx => by
        have := hG.out x (by rw [List.take_of_length_le (by omega)]; exact hx)
        rw [this]; simp)
      go_wp2
      go_ret
      exact ⟨-1, rfl, by rw [HE.out]; rfl, hB⟩
theorem has47 (p : Option Addr) (l : List (Nat × Nat)) (cap P g n : Nat) (f : Nat → Int) (w : World) (hS : Gr w p n l) (hP : w.cell? ⟨P, 0, none⟩ = some (.slice (some ⟨g, 0, none⟩) n n)) (hR : Row w g n f) :
    Calls Try.prog 40 #[.slice p l.length cap, .func (.func 47) #[] #[.pointer (some ⟨P, 0, none⟩)]] w fun e w' => e = .returned (.bool (anyBad f l)) ∧ Below w.heap.size w w' := by
  go_enter Try.func40, Try.ntmps40
  go_wp2_with (go_at_call 60; (with_reducible refine (idx47 p l cap P g n f _ hS hP hR).mono ?_); rintro e1 w1 ⟨i, rfl, hi, hb1⟩)
  go_ret
  exact ⟨rfl, hb1⟩
theorem chB_bad (l : List (Nat × Nat)) (os : List Int) : (!anyBad (fun x => ixo os (x : Int)) l) = chB (cast2 l) os := by
  unfold anyBad chB cast2
  rw [List.all_map, Bool.eq_iff_iff]
  simp
set_option maxRecDepth 100000 in
theorem check_no (p : Option Addr) (n : Int) (l : List (Int × Int)) (cap : Nat) (w : World) (o : Value) (hS : Sl w p l) (h : vG n l = false) :
    Calls Try.prog 13 #[.int .i64 n, .slice p l.length cap, o] w fun e w' => e = .returned (.tuple #[.bool false, .int .i64 1]) ∧ Below w.heap.size w w' := by
  have C := (Has.new_ w 3 #[.int .i64 n]).read 0
  have b0 := al1 w (.cells #[.int .i64 n] 3)
  have hv := valid_any p l cap n _ (hS.on b0)
  rw [h] at hv
  go_enter Try.func13, Try.ntmps13
  go_wp2_with (go_at_call 15; (with_reducible refine hv.mono ?_); rintro e w1 ⟨rfl, b1⟩)
  exact bodyPost_ret (v := .tuple #[.bool false, .int .i64 1]) (by simp [results, Try.results13, go_sem]) rfl ⟨rfl, belows b0 b1⟩
set_option maxRecDepth 100000 in
set_option maxHeartbeats 4000000 in
theorem check_ok (p : Option Addr) (n : Nat) (l : List (Nat × Nat)) (cap : Nat) (w : World) (o : Value) (os : List Int) (hG : Gr w p n l) (hO : Rdz w o os) (hol : os.length ≤ 100000) :
    Calls Try.prog 13 #[.int .i64 n, .slice p l.length cap, o] w fun e w' => e = .returned (.tuple #[.bool (decide (codeN n os = 0) && chB (cast2 l) os), .int .i64 (codeN n os)]) ∧ Below w.heap.size w w' := by
  have hn := hG.2.2.1
  have C0 := Has.new_ w 3 #[.int .i64 (n : Int)]
  have C := C0.read 0
  have b0 := al1 w (.cells #[.int .i64 (n : Int)] 3)
  have hv := valid_ok cap (hG.on b0)
  have HO := Lib.hid hO
  obtain ⟨q, c, rfl, k1⟩ := hO
  have K1 := Lib.hid k1
  clear k1
  by_cases h1 : (os.length : Int) = (n : Int)
  · by_cases h2 : os.any (outN n) = true
    · have e : codeN n os = 2 := by unfold codeN; rw [if_neg (by simpa using h1), if_pos h2]
      rw [e]
      have t1 : ((os.length : Int) != (n : Int)) = false := by simp [h1]
      have H2 := Lib.hid h2
      clear e h1 h2
      go_enter Try.func13, Try.ntmps13
      go_wp2_with (first
        | (go_at_call 15; (with_reducible refine hv.mono ?_); rintro e w1 ⟨rfl, b1⟩; have b2 := belows b0 b1; have C2 := cell_later b1 C)
        | (go_at_call 32; (with_reducible refine (out44_has _ os _ n w.heap.size C2 (HO.out.on b2) hol).mono ?_); rw [H2.out]; rintro e w2 ⟨rfl, rfl⟩))
      exact bodyPost_ret (v := .tuple #[.bool false, .int .i64 2]) (by simp [results, Try.results13, go_sem]) rfl ⟨rfl, b2⟩
    · have h2 : os.any (outN n) = false := by simpa using h2
      have hr : ∀ x ∈ os, 0 ≤ x ∧ x < n := fun x hx => by
        have := List.any_eq_false.1 h2 x hx
        simp [outN, wi] at this
        exact this
      have hc : codeN n os = if os.Nodup then 0 else 10 := by unfold codeN; rw [if_neg (by simpa using h1), if_neg (by rw [h2]; simp)]
      have t1 : ((os.length : Int) != (n : Int)) = false := by simp [h1]
      have H2 := Lib.hid h2
      have HC := Lib.hid hc
      have HR := Lib.hid hr
      have HL := Lib.hid h1
      obtain ⟨Z, hZ⟩ : ∃ Z, Z = codeN n os := ⟨_, rfl⟩
      rw [← hZ]
      have HZ := Lib.hid hZ
      clear hc h1 h2 hr hZ
      go_enter Try.func13, Try.ntmps13
      go_wp2_with (first
        | (go_at_call 15; (with_reducible refine hv.mono ?_); rintro e w1 ⟨rfl, b1⟩; have b2 := belows b0 b1; have C2 := cell_later b1 C; have C3 := cell_later (al1 w1 (.cells #[.int .i64 (-1)] 3)) C2; have CN := (Has.new_ w1 3 #[.int .i64 (-1)]).read 0)
        | (go_at_call 32; (with_reducible refine (out44_has _ os _ n w.heap.size C2 (HO.out.on b2) hol).mono ?_); rw [H2.out]; rintro e w2 ⟨rfl, rfl⟩)
        | (go_at_call 46; (with_reducible refine (repeat_ex (-1) w1.heap.size n _ (by omega) CN).mono ?_); rintro e w3 ⟨g, rfl, hg, r3, b3⟩; have b4 := belows (belows b2 (al1 w1 _)) b3; have hgw : w.heap.size ≤ g := (by have := b2.size; simp at hg; omega); have hgs := r3.size_; have CP := Has.new_ w3 23 #[.slice (some ⟨g, 0, none⟩) n n]; have R4 := Lib.hid ((Row.on r3 (al1 w3 (.cells #[.slice (some ⟨g, 0, none⟩) n n] 23))).cong (f' := fun x => ixo (os.take 0) (x : Int)) (fun i _ => (ixo_not (by simp)).symm)); have B4 := al b4 (.cells #[.slice (some ⟨g, 0, none⟩) n n] 23); have HCP := Lib.hid CP; clear r3 CP C3 C2 CN))
      generalize hP : w3.heap.size = P at *
      have nPg : P ≠ g := by omega
      have hPw : w.heap.size ≤ P := by omega
      have ND0 : Hid ((os.take 0).Nodup) := Lib.hid (by simp)
      generalize hW : w3.alloc (.cells #[.slice (some ⟨g, 0, none⟩) n n] 23) = wp at *
      clear hW hP b4 b3 b2 b1 b0 hgs C C0
      go_loopw [30] (fun v wr => ∃ k : Nat, v = .int .i64 k ∧ k ≤ os.length ∧ Hid (Row wr g n fun x => ixo (os.take k) (x : Int)) ∧ Hid (Has wr P 23 #[.slice (some ⟨g, 0, none⟩) n n]) ∧ Below w.heap.size w wr ∧ Hid ((os.take k).Nodup)) (fun v _ => os.length - (intOf v).toNat)
      case atStart => exact ⟨0, rfl, Nat.zero_le _, R4, HCP, B4, ND0⟩
      case round =>
        clear R4 HCP B4 ND0
        obtain ⟨k, rfl, hk, hR, hP, hB, hN⟩ := hrel
        by_cases hlt : k < os.length
        · have g1 : decide ((k : Int) < (os.length : Int)) = true := by simp [hlt]
          have W1 : IntKind.i64.wrap ((k : Int) + 1) = ((k + 1 : Nat) : Int) := by rw [IntWalk.i64_in _ (by omega)]; omega
          have q1 : (0 : Int) ≤ (k : Int) := by omega
          have q2 : (k : Int) < (os.length : Int) := by omega
          obtain ⟨a, rfl, cj⟩ := K1.out k hlt
          have cj := cell_later hB cj
          obtain ⟨hy0, hy1⟩ := HR.out _ (List.getElem_mem hlt)
          obtain ⟨y, hyy⟩ : ∃ y : Nat, (y : Int) = os[k] := ⟨os[k].toNat, by omega⟩
          have HI := Lib.hid (fun h x => ixo_take (os := os) hlt h x)
          have HNN := Lib.hid (fun h => not_nodup (os := os) hlt h)
          have HTN := Lib.hid (fun h => take_nodup (os := os) hlt hN.out h)
          rw [← hyy] at cj hy0 hy1 HI HNN HTN
          clear hyy
          have hyn : y < n := by omega
          have cy := hR.out.read hyn
          have fy := Has.open_ hR.out y
          have cP := hP.out.read 0
          have HM := Lib.hid (fun h => ixo_mem (zs := os.take k) (x := (y : Int)) h)
          have HMN := Lib.hid (fun h => ixo_not (zs := os.take k) (x := (y : Int)) h)
          by_cases hm : (y : Int) ∈ os.take k
          · have zp := HM.out hm
            have t3 : ((ixo (os.take k) (y : Int)) != (-1 : Int)) = true := by simp; omega
            have HNO := Lib.hid (HNN.out hm)
            have HZ2 : Hid (Z = 10) := Lib.hid (by rw [HZ.out, HC.out, if_neg HNO.out])
            obtain ⟨z, hz⟩ : ∃ z, z = ixo (os.take k) (y : Int) := ⟨_, rfl⟩
            rw [← hz] at cy t3
            clear hz zp hm
            go_wp2
            refine bodyPost_ret (v := .tuple #[.bool false, .int .i64 10]) (by simp [results, Try.results13, go_sem]) rfl ⟨by rw [HZ2.out]; rfl, hB⟩
          · have zn := HMN.out hm
            have t3 : ((-1 : Int) != (-1 : Int)) = false := by decide
            rw [zn] at cy
            have HR3 : Hid (Row (wr.setCell ⟨g, y, none⟩ (.int .i64 (k : Int))) g n fun x => ixo (os.take (k + 1)) (x : Int)) := Lib.hid ((hR.out.put y (k : Int)).cong fun i _ => by
              rw [HI.out hm]
              unfold upd
              by_cases e : i = y
              · subst e; rw [if_pos rfl, if_pos rfl]
              · rw [if_neg e, if_neg (by omega)])
            have HP3 := Lib.hid (Has.apart_ hP.out (p := ⟨g, y, none⟩) nPg (.int .i64 (k : Int)))
            have HN3 := Lib.hid (HTN.out hm)
            clear zn hm
            go_wp2
            exact ⟨⟨k + 1, rfl, hlt, HR3, HP3, hB.setCell hgw _, HN3⟩, by simp [intOf]; omega⟩
        · have g1 : decide ((k : Int) < (os.length : Int)) = false := by simp; omega
          have hR2 := hR.out
          have hN2 := hN.out
          rw [List.take_of_length_le (by omega)] at hN2
          have HZ2 : Hid (Z = 0) := Lib.hid (by rw [HZ.out, HC.out, if_pos hN2])
          have HR3 := Lib.hid (hR2.cong (f' := fun x => ixo os (x : Int)) fun i _ => by rw [List.take_of_length_le (by omega)])
          clear hR2 hN2 hR hN
          have cP : wr.cell? ⟨P, 0, none⟩ = some (.slice (some ⟨g, 0, none⟩) n n) := hP.out.read 0
          have hc := has47 p l cap P g n (fun x => ixo os (x : Int)) wr (hG.on hB) cP HR3.out
          go_wp2_with (go_at_call 40; (with_reducible refine hc.mono ?_); rintro e w4 ⟨rfl, b4⟩)
          refine bodyPost_ret (v := .tuple #[.bool (!anyBad (fun x => ixo os (x : Int)) l), .int .i64 0]) (by simp [results, Try.results13, go_sem]) rfl ⟨by rw [HZ2.out, chB_bad]; rfl, belows hB b4⟩
  · have e : codeN n os = 3 := by unfold codeN; rw [if_pos h1]
    rw [e]
    have t1 : ((os.length : Int) != (n : Int)) = true := by simpa using h1
    clear e h1
    go_enter Try.func13, Try.ntmps13
    go_wp2_with (go_at_call 15; (with_reducible refine hv.mono ?_); rintro e w1 ⟨rfl, b1⟩; have C2 := cell_later b1 C)
    exact bodyPost_ret (v := .tuple #[.bool false, .int .i64 3]) (by simp [results, Try.results13, go_sem]) rfl ⟨rfl, belows b0 b1⟩
end Go.Proofs.Yteofbbakegcohaa
