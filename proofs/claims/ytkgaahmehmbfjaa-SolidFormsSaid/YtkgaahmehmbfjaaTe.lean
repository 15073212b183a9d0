/- Stretches (pure); an append in the plan of a drawn region. -/
import Derived.Test.YtkgaahmehmbfjaaTd
import Derived.Test.YtkgaahmehmbfjaaZ2
namespace Go.Proofs.Ytkgaahmehmbfjaa
open Go.ChangeShapes Go.WideShapes Go.ChangeAt Go.RowKit
set_option linter.unusedVariables false
set_option linter.unusedSimpArgs false

/-- What lies between two neighbouring cuts, with the boxes and holes that take up all of it. -/
structure Sx where
  lo : Int
  hi : Int
  bm : Nat
  hm : Nat
def xc (s : Sx) : List Value := [.int .i64 s.lo, .int .i64 s.hi, .int .u32 (s.bm : Int), .int .u32 (s.hm : Int)]
theorem xl (s : Sx) : (xc s).length = 4 := rfl
def sxOf (l h : List Bx) (ax : Nat) (p : S2) : Sx := ⟨p.1, p.2, hmk (sds l ax) p l.length, hmk (sds h ax) p h.length⟩
def strs (l h : List Bx) (ax : Nat) : List Sx := (prs (places l h ax)).map (sxOf l h ax)
theorem prs_len (L : List Int) : (prs L).length = L.length - 1 := by simp [prs]
theorem prs_take {L : List Int} {i : Nat} (h : i + 1 < L.length) : (prs L).take (i + 1) = (prs L).take i ++ [(L[i], L[i + 1])] := by
  rw [List.take_succ_eq_append_getElem (by rw [prs_len]; omega)]
  have h1 : i < L.length := by omega
  simp [prs, List.getElem?_eq_getElem h1, List.getElem?_eq_getElem h]
theorem strs_len (l h : List Bx) (ax : Nat) : (strs l h ax).length = (places l h ax).length - 1 := by rw [strs, List.length_map, prs_len]
theorem strs_take {l h : List Bx} {ax i : Nat} (hi : i + 1 < (places l h ax).length) : (strs l h ax).take (i + 1) = (strs l h ax).take i ++ [sxOf l h ax ((places l h ax)[i], (places l h ax)[i + 1])] := by
  rw [strs, ← List.map_take, prs_take hi, List.map_append, List.map_take]; rfl
theorem places_len (l h : List Bx) (ax : Nat) (hl : l.length ≤ 20) (hh : h.length ≤ 20) : (places l h ax).length ≤ 80 := by
  have := compact_len ((pls l ax ++ pls h ax).mergeSort fun x y => decide (x ≤ y))
  rw [List.length_mergeSort, List.length_append, pls_len, pls_len] at this
  have e : places l h ax = Lib.compact ((pls l ax ++ pls h ax).mergeSort fun x y => decide (x ≤ y)) := rfl
  rw [e]; omega
theorem places_pos (l h : List Bx) (ax : Nat) (hl : 1 ≤ l.length) : 1 ≤ (places l h ax).length := by
  rcases Nat.eq_zero_or_pos (places l h ax).length with e | e
  · exfalso
    match l, hl with
    | x :: l, _ =>
      have h1 : pk x.a x.b x.c ax ∈ places (x :: l) h ax := ((srt_asc _).2 _).2 (by simp [pls])
      rw [List.length_eq_zero_iff.1 e] at h1
      cases h1
  · exact e
theorem info115 : (Try.prog.info? 115).map (fun i => (i.zero, i.size, i.bytes)) = some (some (.agg #[.int .i64 0, .int .i64 0, .int .u32 0, .int .u32 0]), 4, 24) := by kernel_rfl
section
variable {P : Program} {w : World} {Q : Exit → Act → World → Prop}
/-- An append to a row of the call's own, as an operation of a plan. -/
theorem append_wp {o : Oper} {a : Act} {K : Act → World → Prop} (s x : Operand) (t : TypeId)
    (ho : o.op = .call { callee := .builtin .append, args := #[s, x], argTypes := #[t, t] })
    (base : Nat) (e : TypeId) (i : TypeInfo) (z : Value) (size bytes : Nat) (ht : P.underlying t = some (.slice e)) (hi : P.info? e = some i) (hz : i.zero = some z)
    (hsize : i.size = size) (hby : i.bytes = bytes) (hzs : z.cells.size = size) (hsz : 0 < size)
    (v : Value) (n : Nat) (xs : List Value) (hs : a.eval s = v) (hown : w.ownsRow base e size v n xs)
    (ad : Addr) (m c : Nat) (news : List Value) (hx : a.eval x = .slice (some ad) m c) (hl : news.length = m * size) (hnews : ∀ j u, news[j]? = some u → w.cell? (ad.add j) = some u) (h1 : ∀ u ∈ news, u.oneCell' = true)
    (h63 : n + m ≤ maxLen) (hbytes : (n + m) * bytes ≤ 140737488355328) (hbase : base ≤ w.heap.size)
    (h : ∀ v' w', w'.ownsRow base e size v' (n + m) (xs ++ news) → w.grownBy w' v.ownBlock → (v'.ownBlock = v.ownBlock ∨ v'.ownBlock = some w.heap.size) → K (a.put o.dst v') w') :
    Oper.wp P o a w K Q := by
  obtain ⟨v', w', hr, h2, h3, h4, h5⟩ := run_append_own_at (P := P) w base t o.type e i z size bytes ht hi hz hsize hby hzs hsz v n xs hown ad m c news hl hnews h1 h63 hbytes hbase
  unfold Oper.wp execOp
  simp only [ho, resolve, invoke, builtin, Sem.run_bind, Sem.run_pure, Result.andThen_ok, List.map_toArray, List.map_cons, List.map_nil, hs, hx, hr]
  exact h v' w' h2 h3 h5
end
end Go.Proofs.Ytkgaahmehmbfjaa
