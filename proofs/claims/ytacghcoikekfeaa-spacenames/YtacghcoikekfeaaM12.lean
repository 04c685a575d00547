/-
  The texts OpenT, OpenS, Law, Cas, Stays, Nam, as one.
-/
import Derived.Lib.SmallJoins
import Derived.SizedLaws
import Derived.WalkKit
import Derived.ProofKit
import Derived.Test.YtacghcoikekfeaaRows
import Derived.Test.YtacghcoikekfeaaM11
/- OpenT -/
namespace Go.Proofs.Ytacghcoikekfeaa
open Go.ChangeShapes Go.WideShapes Go.ChangeAt Go.RowKit Go.Deep It
set_option maxRecDepth 100000

/-- A slice that came in, element by element. -/
theorem open_row {α : Type} [Inhabited α] (E : Enc α) {H : Type} {enc : TypeId × Value → H} {P : Program} {w : World} {t e : TypeId} {fuel : Nat} {v : Value} {dx : DataW H × List MemPlace} (ht : P.underlying t = some (.slice e)) (ce : P.cellsOf e = E.sz) (hsz : 0 < E.sz) {Q : α → DataW H → Prop}
    (elem : ∀ n cs d pl, cs.length = E.sz → DataW.trod enc P w 0 (fun _ => true) true n e cs = some (d, pl) → ∃ x, cs = E.cells x ∧ Q x d)
    (hf : DataW.trod enc P w 0 (fun _ => true) true fuel t [v] = some dx) :
    ∃ l : List α, AtW E w v l ∧ ((dx.1 = .nil ∧ l = []) ∨ ∃ es sp : List (DataW H), dx.1 = .slice es sp ∧ es.length = l.length ∧ ∀ (i : Nat) (x : α), l[i]? = some x → ∃ d, es[i]? = some d ∧ Q x d) := by
  rcases open_slice ht hf with ⟨hcs, hx⟩ | ⟨a, len, cap, m, n, D, Pl, hcs, hb, hl, hm, hmm, hd, hx⟩
  · simp at hcs
    subst hcs
    exact ⟨[], .inl ⟨_, _, rfl, rfl⟩, .inl ⟨by rw [hx], rfl⟩⟩
  · simp at hcs
    subst hcs
    have hlm : len ≤ m := by rw [hmm]; split <;> omega
    have each : ∀ i, i < len → ∃ x : α, (∀ j u, (E.cells x)[j]? = some u → w.cell? ((a.add (i * E.sz)).add j) = some u) ∧ Q x (D i) := by
      intro i hi
      obtain ⟨cs', h1, h2⟩ := hx i (by omega)
      rw [ce] at h1
      obtain ⟨_, hlen, hcell⟩ := World.cells?_some h1
      obtain ⟨x, rfl, hq⟩ := elem _ _ _ _ hlen h2
      refine ⟨x, fun j u hj => ?_, hq⟩
      have hj8 : j < E.sz := by have := (List.getElem?_eq_some_iff.1 hj).1; rwa [E.len] at this
      have := hcell j hj8
      rw [this]
      exact hj
    obtain ⟨q, hq⟩ := choose_lt each
    have hlr : ((List.range len).map q).length = len := by simp
    refine ⟨(List.range len).map q, ?_, .inr ⟨_, _, by rw [hd], by simp, fun i x hi => ?_⟩⟩
    · by_cases hp : 0 < len
      · obtain ⟨b, off, spot⟩ := a
        obtain ⟨u0, hu0⟩ : ∃ u, (E.cells (q 0))[0]? = some u := ⟨_, List.getElem?_eq_getElem (by rw [E.len]; exact hsz)⟩
        have hc0 := (hq 0 hp).1 0 u0 hu0
        have hspot : spot = none := by simpa [Addr.add] using World.cell?_spot hc0
        subst hspot
        rw [WideShapes.add_plain, WideShapes.add_plain] at hc0
        have key : ∀ i, i < len → ∀ j u, (E.cells (q i))[j]? = some u → w.cell? ⟨b, off + (i * E.sz + j), none⟩ = some u := fun i hi j u hj => by
          have h0 := (hq i hi).1 j u hj
          rw [WideShapes.add_plain, WideShapes.add_plain, Nat.add_assoc] at h0
          exact h0
        refine .inr ⟨b, off, cap, by rw [hlr], trivial, World.block_lt_of_cell? _ _ hc0, by omega, by omega, hm, fun j u hj => ?_⟩
        have hlt : j < (E.flat ((List.range len).map q)).length := (List.getElem?_eq_some_iff.1 hj).1
        rw [E.flat_length, hlr] at hlt
        have hi : j / E.sz < len := (Nat.div_lt_iff_lt_mul hsz).2 hlt
        have hgi : ((List.range len).map q)[j / E.sz]? = some (q (j / E.sz)) := by simp [hi]
        have hmod : j % E.sz < E.sz := Nat.mod_lt _ hsz
        obtain ⟨u1, hu1⟩ : ∃ u, (E.cells (q (j / E.sz)))[j % E.sz]? = some u := ⟨_, List.getElem?_eq_getElem (by rw [E.len]; exact hmod)⟩
        have hfl := E.flat_at _ _ _ hgi _ _ hu1
        have hdm : j / E.sz * E.sz + j % E.sz = j := by rw [Nat.mul_comm]; exact Nat.div_add_mod _ _
        have h3 := key _ hi _ _ hu1
        rw [hdm] at hfl h3
        rw [hfl] at hj
        cases hj
        exact h3
      · have : len = 0 := by omega
        subst this
        exact .inl ⟨_, _, rfl, rfl⟩
    · have hi' : i < len := by have := (List.getElem?_eq_some_iff.1 hi).1; rwa [hlr] at this
      have hxq : x = q i := by simpa [hi'] using hi.symm
      subst hxq
      exact ⟨D i, by simp [hi'], (hq i hi').2⟩
def len2 {H : Type} (y : DataW H) (n : Nat) : Prop := n = 0 ∨ ∃ es sp, y = .slice es sp ∧ es.length = n
theorem open_runs {H : Type} {enc : TypeId × Value → H} {w : World} {fuel : Nat} {v : Value} {dx : DataW H × List MemPlace} (hf : DataW.trod enc Try.prog w 0 (fun _ => true) true fuel 47 [v] = some dx) : ∃ l, AtW ER w v l ∧ okFields l ∧ len2 dx.1 l.length := by
  have : Inhabited (Int × ByteArray) := ⟨(0, .empty)⟩
  obtain ⟨l, h1, h2⟩ := open_row ER Try.underlying47 (by kernel_rfl) (by decide) (Q := fun x _ => (-9223372036854775808 ≤ x.1 ∧ x.1 ≤ 9223372036854775807) ∧ x.2.size ≤ maxLen) (fun n cs d pl hl h => by
    obtain ⟨y0, y1, m, _, _, g0, g1⟩ := trod_struct2 Try.underlying148 h
    match cs, hl with
    | [c0, c1], _ =>
      rw [show Try.prog.cellsOf 3 = 1 from by kernel_rfl] at g0
      rw [show Try.prog.cellsOf 9 = 1 from by kernel_rfl] at g1
      simp at g0 g1
      obtain ⟨a, e0, _, wf⟩ := DataW.trod_int Try.underlying3 g0
      obtain ⟨s, e1, _, hs⟩ := DataW.trod_string Try.underlying9 g1
      simp only [List.cons.injEq, and_true] at e0 e1
      subst e0
      subst e1
      refine ⟨(a, s), rfl, ?_, hs⟩
      simp [Lit.wf, IntKind.min, IntKind.max, IntKind.signed, IntKind.bits] at wf
      exact ⟨by omega, by omega⟩) hf
  refine ⟨l, h1, fun x hx => ?_, ?_⟩
  · rcases h2 with ⟨_, rfl⟩ | ⟨es, sp, _, _, hq⟩
    · cases hx
    · obtain ⟨i, hi⟩ := List.mem_iff_getElem?.1 hx
      obtain ⟨d, _, hd⟩ := hq i x hi
      exact hd
  · rcases h2 with ⟨_, rfl⟩ | ⟨es, sp, he, hl, _⟩
    · exact .inl rfl
    · exact .inr ⟨es, sp, he, hl⟩
theorem open_ents {H : Type} {enc : TypeId × Value → H} {w : World} {fuel : Nat} {v : Value} {dx : DataW H × List MemPlace} (hf : DataW.trod enc Try.prog w 0 (fun _ => true) true fuel 48 [v] = some dx) : ∃ l, AtW EE w v l ∧ len2 dx.1 l.length := by
  have : Inhabited (ByteArray × Int × Int × Int) := ⟨(.empty, 0, 0, 0)⟩
  obtain ⟨l, h1, h2⟩ := open_row EE Try.underlying48 (by kernel_rfl) (by decide) (Q := fun _ _ => True) (fun n cs d pl hl h => by
    obtain ⟨xs, m, _, _, _, hxl, hg⟩ := DataW.trod_struct Try.underlying62 h
    match cs, hl with
    | [c0, c1, c2, c3], _ =>
      have g0 := hg 0 _ rfl
      have g1 := hg 1 _ rfl
      have g2 := hg 2 _ rfl
      have hx3 : xs.length = 3 := by rw [hxl]; rfl
      match xs, hx3 with
      | [y0, y1, y2], _ =>
        simp only [List.getElem_toArray, List.getElem_cons_zero, List.getElem_cons_succ] at g0 g1 g2
        simp only [show Try.prog.cellsOf 9 = 1 from by kernel_rfl, show Try.prog.cellsOf 3 = 1 from by kernel_rfl, show Try.prog.cellsOf 24 = 2 from by kernel_rfl] at g0 g1 g2
        simp at g0 g1 g2
        obtain ⟨z0, z1, m2, _, _, k0, k1⟩ := trod_struct2 Try.underlying24 g2
        simp only [show Try.prog.cellsOf 3 = 1 from by kernel_rfl] at k0 k1
        simp at k0 k1
        obtain ⟨s, e0, _, _⟩ := DataW.trod_string Try.underlying9 g0
        obtain ⟨a, e1, _, _⟩ := DataW.trod_int Try.underlying3 g1
        obtain ⟨b, e2, _, _⟩ := DataW.trod_int Try.underlying3 k0
        obtain ⟨c, e3, _, _⟩ := DataW.trod_int Try.underlying3 k1
        simp only [List.cons.injEq, and_true] at e0 e1 e2 e3
        subst e0
        subst e1
        subst e2
        subst e3
        exact ⟨(s, a, b, c), rfl, trivial⟩) hf
  refine ⟨l, h1, ?_⟩
  rcases h2 with ⟨_, rfl⟩ | ⟨es, sp, he, hl, _⟩
  · exact .inl rfl
  · exact .inr ⟨es, sp, he, hl⟩
/-- What an inode that came in is, and how it reads. -/
def InoRead {H : Type} (w : World) (x : Rw) (d : DataW H) : Prop := AtW ER w (.slice x.rp x.rn x.rc) x.i.runs ∧ okFields x.i.runs ∧ AtW EE w (.slice x.ep x.en x.ec) x.i.ents ∧ ∃ y0 y1 y2 y3 y4, d = .agg [y0, y1, y2, y3, y4] ∧ len2 y2 x.i.runs.length ∧ len2 y3 x.i.ents.length
theorem open_ino {H : Type} {enc : TypeId × Value → H} {w : World} {n : Nat} {cs : List Value} {d : DataW H} {pl : List MemPlace} (hl : cs.length = 8) (h : DataW.trod enc Try.prog w 0 (fun _ => true) true n 50 cs = some (d, pl)) : ∃ x : Rw, cs = EI.cells x ∧ InoRead w x d := by
  obtain ⟨xs, m, _, hxy, _, hxl, hg⟩ := DataW.trod_struct Try.underlying50 h
  match cs, hl with
  | [c0, c1, c2, c3, c4, c5, c6, c7], _ =>
    have g0 := hg 0 _ rfl
    have g1 := hg 1 _ rfl
    have g2 := hg 2 _ rfl
    have g3 := hg 3 _ rfl
    have g4 := hg 4 _ rfl
    have hx5 : xs.length = 5 := by rw [hxl]; rfl
    match xs, hx5 with
    | [y0, y1, y2, y3, y4], _ =>
      simp only [List.getElem_toArray, List.getElem_cons_zero, List.getElem_cons_succ] at g0 g1 g2 g3 g4
      simp only [show Try.prog.cellsOf 47 = 1 from by kernel_rfl, show Try.prog.cellsOf 48 = 1 from by kernel_rfl, show Try.prog.cellsOf 3 = 1 from by kernel_rfl, show Try.prog.cellsOf 46 = 4 from by kernel_rfl] at g0 g1 g2 g3 g4
      simp at g0 g1 g2 g3 g4
      obtain ⟨zs, m2, _, _, _, hzl, hz⟩ := DataW.trod_struct Try.underlying46 g1
      have k0 := hz 0 _ rfl
      have k1 := hz 1 _ rfl
      have k2 := hz 2 _ rfl
      have k3 := hz 3 _ rfl
      have hz4 : zs.length = 4 := by rw [hzl]; rfl
      match zs, hz4 with
      | [z0, z1, z2, z3], _ =>
        simp only [List.getElem_toArray, List.getElem_cons_zero, List.getElem_cons_succ] at k0 k1 k2 k3
        simp only [show Try.prog.cellsOf 3 = 1 from by kernel_rfl] at k0 k1 k2 k3
        simp at k0 k1 k2 k3
        obtain ⟨g, e0, _, _⟩ := DataW.trod_int Try.underlying3 g0
        obtain ⟨k, e1, _, _⟩ := DataW.trod_int Try.underlying3 k0
        obtain ⟨l, e2, _, _⟩ := DataW.trod_int Try.underlying3 k1
        obtain ⟨s, e3, _, _⟩ := DataW.trod_int Try.underlying3 k2
        obtain ⟨t, e4, _, _⟩ := DataW.trod_int Try.underlying3 k3
        obtain ⟨nx, e7, _, _⟩ := DataW.trod_int Try.underlying3 g4
        obtain ⟨rs, hr1, hr2, hr3⟩ := open_runs g2
        obtain ⟨es, he1, he2⟩ := open_ents g3
        simp only [List.cons.injEq, and_true] at e0 e1 e2 e3 e4 e7
        subst e0
        subst e1
        subst e2
        subst e3
        subst e4
        subst e7
        obtain ⟨rp, rc, rfl, _, _⟩ := hr1.open
        obtain ⟨ep, ec, rfl, _, _⟩ := he1.open
        exact ⟨⟨⟨g, k, l, s, t, rs, es, nx⟩, rp, rs.length, rc, ep, es.length, ec⟩, rfl, hr1, hr2, he1, _, _, _, _, _, (Prod.mk.inj hxy).1, hr3, he2⟩
theorem weights_mem_all {H : Type} {P : Program} {e : TypeId} {n : Nat} : ∀ {ds : List (DataW H)} {d : DataW H}, d ∈ ds → n ∈ d.weights P e → n ∈ DataW.weightsAll P e ds
  | d0 :: ds, d, hd, hn => by
    simp only [DataW.weightsAll, List.mem_append]
    rcases List.mem_cons.1 hd with rfl | hd
    · exact .inl hn
    · exact .inr (weights_mem_all hd hn)
  | [], _, hd, _ => by cases hd
theorem reach_le : reachBytes ≤ 140737488351232 := by decide
theorem good_of_read {H : Type} {w : World} {x : Rw} {d : DataW H} (h : InoRead w x d) (hwt : ∀ n ∈ d.weights Try.prog 50, n ≤ reachBytes) : GoodW w x := by
  obtain ⟨h1, h2, h3, y0, y1, y2, y3, y4, hd, l2, l3⟩ := h
  have hrb := reach_le
  subst hd
  refine ⟨h1, h3, h2, ?_, ?_⟩
  · rcases l2 with l2 | ⟨es, sp, rfl, l2⟩
    · omega
    · have := hwt ((es.length + sp.length) * Try.prog.bytesOf 148) (by
        simp only [DataW.weights, Try.underlying50]
        refine DataW.weights_mem_each (j := 2) (t := 47) (d := .slice es sp) rfl rfl _ ?_
        simp [DataW.weights, Try.underlying47])
      rw [show Try.prog.bytesOf 148 = 24 from by kernel_rfl] at this
      omega
  · rcases l3 with l3 | ⟨es, sp, rfl, l3⟩
    · omega
    · have := hwt ((es.length + sp.length) * Try.prog.bytesOf 62) (by
        simp only [DataW.weights, Try.underlying50]
        refine DataW.weights_mem_each (j := 3) (t := 48) (d := .slice es sp) rfl rfl _ ?_
        simp [DataW.weights, Try.underlying48])
      rw [show Try.prog.bytesOf 62 = 40 from by kernel_rfl] at this
      omega
theorem open_tab {H : Type} {enc : TypeId × Value → H} {w : World} {v : Value} {d : DataW H} {p : List MemPlace} (hv : ∃ a len cap, v = .slice a len cap) (h : DataW.Trod enc Try.prog w 0 (fun _ => true) true 27 v d p) (hwt : ∀ n ∈ d.weights Try.prog 27, n ≤ reachBytes) : ∃ L, TabW w v L ∧ L.length ≤ 1466015503701 := by
  obtain ⟨a, len, cap, rfl⟩ := hv
  obtain ⟨fuel, hf⟩ := h
  have hrb := reach_le
  obtain ⟨L, h1, h2⟩ := open_row EI Try.underlying27 (by kernel_rfl) (by decide) (Q := fun x d => InoRead w x d) (fun n cs d pl hl h => open_ino hl h) (by simpa [Value.cells] using hf)
  refine ⟨L, ⟨h1, fun x hx => ?_⟩, ?_⟩
  · rcases h2 with ⟨_, rfl⟩ | ⟨es, sp, hd, _, hq⟩
    · cases hx
    · obtain ⟨i, hi⟩ := List.mem_iff_getElem?.1 hx
      obtain ⟨dd, hdd, hr⟩ := hq i x hi
      refine good_of_read hr fun n hn => hwt n ?_
      simp only at hd
      rw [hd]
      simp only [DataW.weights, Try.underlying27, List.mem_cons, List.mem_append]
      right
      left
      exact weights_mem_all (List.mem_of_getElem? hdd) hn
  · rcases h2 with ⟨_, rfl⟩ | ⟨es, sp, hd, hl, hq⟩
    · simp
    · have := hwt ((es.length + sp.length) * Try.prog.bytesOf 50) (by
        simp only at hd
        rw [hd]
        simp [DataW.weights, Try.underlying27])
      rw [show Try.prog.bytesOf 50 = 96 from by kernel_rfl] at this
      omega
theorem open_inode {H : Type} {enc : TypeId × Value → H} {w : World} {r : Reach} {b0 : Nat} {v : Value} {d : DataW H} {p : List MemPlace} (hv : Value.okWide Try.prog w r b0 50 v) (h : DataW.Trod enc Try.prog w 0 (fun _ => true) true 50 v d p) (hwt : ∀ n ∈ d.weights Try.prog 50, n ≤ reachBytes) : ∃ x, v = VI x ∧ GoodW w x := by
  obtain ⟨cs, rfl, hsz⟩ := okWide_struct Try.underlying50 hv
  obtain ⟨fuel, hf⟩ := h
  have h8 : cs.toList.length = 8 := by rw [Array.length_toList, hsz]; kernel_rfl
  obtain ⟨x, hx, hr⟩ := open_ino h8 (by simpa [Value.cells] using hf)
  refine ⟨x, ?_, good_of_read hr hwt⟩
  show Value.agg cs = .agg (EI.cells x).toArray
  rw [← hx]
theorem open_handle {H : Type} {enc : TypeId × Value → H} {w : World} {r : Reach} {b0 : Nat} {v : Value} {d : DataW H} {p : List MemPlace} (hv : Value.okWide Try.prog w r b0 24 v) (h : DataW.Trod enc Try.prog w 0 (fun _ => true) true 24 v d p) : ∃ a b : Int, v = .agg #[.int .i64 a, .int .i64 b] := by
  obtain ⟨c0, c1, y0, y1, m, rfl, rfl, rfl, g0, g1⟩ := Joins.open_agg2 Try.underlying24 (by kernel_rfl) (by kernel_rfl) hv h
  obtain ⟨a, e0, _, _⟩ := DataW.trod_int Try.underlying3 g0
  obtain ⟨b, e1, _, _⟩ := DataW.trod_int Try.underlying3 g1
  simp only [List.cons.injEq, and_true] at e0 e1
  exact ⟨a, b, by rw [e0, e1]⟩
end Go.Proofs.Ytacghcoikekfeaa
/- OpenS -/
namespace Go.Proofs.Ytacghcoikekfeaa
open Go.ChangeShapes Go.WideShapes Go.ChangeAt Go.RowKit Go.Deep It
set_option maxRecDepth 100000
theorem sopen_ents {H : Type} {enc : TypeId × Value → H} {w : World} {fuel : Nat} {v : Value} {dx : DataW H × List MemPlace} (hf : DataW.trod enc Try.prog w 0 (fun _ => true) true fuel 48 [v] = some dx) : ∃ l, AtW EE w v l ∧ (∀ x ∈ l, x.1.size ≤ maxLen) ∧ len2 dx.1 l.length := by
  have : Inhabited (ByteArray × Int × Int × Int) := ⟨(.empty, 0, 0, 0)⟩
  obtain ⟨l, h1, h2⟩ := open_row EE Try.underlying48 (by kernel_rfl) (by decide) (Q := fun x _ => x.1.size ≤ maxLen) (fun n cs d pl hl h => by
    obtain ⟨xs, m, _, _, _, hxl, hg⟩ := DataW.trod_struct Try.underlying62 h
    match cs, hl with
    | [c0, c1, c2, c3], _ =>
      have g0 := hg 0 _ rfl
      have g1 := hg 1 _ rfl
      have g2 := hg 2 _ rfl
      have hx3 : xs.length = 3 := by rw [hxl]; rfl
      match xs, hx3 with
      | [y0, y1, y2], _ =>
        simp only [List.getElem_toArray, List.getElem_cons_zero, List.getElem_cons_succ] at g0 g1 g2
        simp only [show Try.prog.cellsOf 9 = 1 from by kernel_rfl, show Try.prog.cellsOf 3 = 1 from by kernel_rfl, show Try.prog.cellsOf 24 = 2 from by kernel_rfl] at g0 g1 g2
        simp at g0 g1 g2
        obtain ⟨z0, z1, m2, _, _, k0, k1⟩ := trod_struct2 Try.underlying24 g2
        simp only [show Try.prog.cellsOf 3 = 1 from by kernel_rfl] at k0 k1
        simp at k0 k1
        obtain ⟨s, e0, _, hs0⟩ := DataW.trod_string Try.underlying9 g0
        obtain ⟨a, e1, _, _⟩ := DataW.trod_int Try.underlying3 g1
        obtain ⟨b, e2, _, _⟩ := DataW.trod_int Try.underlying3 k0
        obtain ⟨c, e3, _, _⟩ := DataW.trod_int Try.underlying3 k1
        simp only [List.cons.injEq, and_true] at e0 e1 e2 e3
        subst e0
        subst e1
        subst e2
        subst e3
        exact ⟨(s, a, b, c), rfl, hs0⟩) hf
  refine ⟨l, h1, fun x hx => ?_, ?_⟩
  · rcases h2 with ⟨_, rfl⟩ | ⟨es, sp, he, _, hq⟩
    · cases hx
    · obtain ⟨i, hi⟩ := List.mem_iff_getElem?.1 hx
      obtain ⟨d, _, hd⟩ := hq i x hi
      exact hd
  rcases h2 with ⟨_, rfl⟩ | ⟨es, sp, he, hl, _⟩
  · exact .inl rfl
  · exact .inr ⟨es, sp, he, hl⟩
/-- What an inode that came in is, and how it reads. -/
def SInoRead {H : Type} (w : World) (x : Rw) (d : DataW H) : Prop := AtW ER w (.slice x.rp x.rn x.rc) x.i.runs ∧ okFields x.i.runs ∧ AtW EE w (.slice x.ep x.en x.ec) x.i.ents ∧ (∀ e ∈ x.i.ents, e.1.size ≤ maxLen) ∧ ∃ y0 y1 y2 y3 y4, d = .agg [y0, y1, y2, y3, y4] ∧ len2 y2 x.i.runs.length ∧ len2 y3 x.i.ents.length
theorem sopen_ino {H : Type} {enc : TypeId × Value → H} {w : World} {n : Nat} {cs : List Value} {d : DataW H} {pl : List MemPlace} (hl : cs.length = 8) (h : DataW.trod enc Try.prog w 0 (fun _ => true) true n 50 cs = some (d, pl)) : ∃ x : Rw, cs = EI.cells x ∧ SInoRead w x d := by
  obtain ⟨xs, m, _, hxy, _, hxl, hg⟩ := DataW.trod_struct Try.underlying50 h
  match cs, hl with
  | [c0, c1, c2, c3, c4, c5, c6, c7], _ =>
    have g0 := hg 0 _ rfl
    have g1 := hg 1 _ rfl
    have g2 := hg 2 _ rfl
    have g3 := hg 3 _ rfl
    have g4 := hg 4 _ rfl
    have hx5 : xs.length = 5 := by rw [hxl]; rfl
    match xs, hx5 with
    | [y0, y1, y2, y3, y4], _ =>
      simp only [List.getElem_toArray, List.getElem_cons_zero, List.getElem_cons_succ] at g0 g1 g2 g3 g4
      simp only [show Try.prog.cellsOf 47 = 1 from by kernel_rfl, show Try.prog.cellsOf 48 = 1 from by kernel_rfl, show Try.prog.cellsOf 3 = 1 from by kernel_rfl, show Try.prog.cellsOf 46 = 4 from by kernel_rfl] at g0 g1 g2 g3 g4
      simp at g0 g1 g2 g3 g4
      obtain ⟨zs, m2, _, _, _, hzl, hz⟩ := DataW.trod_struct Try.underlying46 g1
      have k0 := hz 0 _ rfl
      have k1 := hz 1 _ rfl
      have k2 := hz 2 _ rfl
      have k3 := hz 3 _ rfl
      have hz4 : zs.length = 4 := by rw [hzl]; rfl
      match zs, hz4 with
      | [z0, z1, z2, z3], _ =>
        simp only [List.getElem_toArray, List.getElem_cons_zero, List.getElem_cons_succ] at k0 k1 k2 k3
        simp only [show Try.prog.cellsOf 3 = 1 from by kernel_rfl] at k0 k1 k2 k3
        simp at k0 k1 k2 k3
        obtain ⟨g, e0, _, _⟩ := DataW.trod_int Try.underlying3 g0
        obtain ⟨k, e1, _, _⟩ := DataW.trod_int Try.underlying3 k0
        obtain ⟨l, e2, _, _⟩ := DataW.trod_int Try.underlying3 k1
        obtain ⟨s, e3, _, _⟩ := DataW.trod_int Try.underlying3 k2
        obtain ⟨t, e4, _, _⟩ := DataW.trod_int Try.underlying3 k3
        obtain ⟨nx, e7, _, _⟩ := DataW.trod_int Try.underlying3 g4
        obtain ⟨rs, hr1, hr2, hr3⟩ := open_runs g2
        obtain ⟨es, he1, he3, he2⟩ := sopen_ents g3
        simp only [List.cons.injEq, and_true] at e0 e1 e2 e3 e4 e7
        subst e0
        subst e1
        subst e2
        subst e3
        subst e4
        subst e7
        obtain ⟨rp, rc, rfl, _, _⟩ := hr1.open
        obtain ⟨ep, ec, rfl, _, _⟩ := he1.open
        exact ⟨⟨⟨g, k, l, s, t, rs, es, nx⟩, rp, rs.length, rc, ep, es.length, ec⟩, rfl, hr1, hr2, he1, he3, _, _, _, _, _, (Prod.mk.inj hxy).1, hr3, he2⟩
theorem sgood_of_read {H : Type} {w : World} {x : Rw} {d : DataW H} (h : SInoRead w x d) (hwt : ∀ n ∈ d.weights Try.prog 50, n ≤ reachBytes) : GoodW w x := by
  obtain ⟨h1, h2, h3, -, y0, y1, y2, y3, y4, hd, l2, l3⟩ := h
  have hrb := reach_le
  subst hd
  refine ⟨h1, h3, h2, ?_, ?_⟩
  · rcases l2 with l2 | ⟨es, sp, rfl, l2⟩
    · omega
    · have := hwt ((es.length + sp.length) * Try.prog.bytesOf 148) (by
        simp only [DataW.weights, Try.underlying50]
        refine DataW.weights_mem_each (j := 2) (t := 47) (d := .slice es sp) rfl rfl _ ?_
        simp [DataW.weights, Try.underlying47])
      rw [show Try.prog.bytesOf 148 = 24 from by kernel_rfl] at this
      omega
  · rcases l3 with l3 | ⟨es, sp, rfl, l3⟩
    · omega
    · have := hwt ((es.length + sp.length) * Try.prog.bytesOf 62) (by
        simp only [DataW.weights, Try.underlying50]
        refine DataW.weights_mem_each (j := 3) (t := 48) (d := .slice es sp) rfl rfl _ ?_
        simp [DataW.weights, Try.underlying48])
      rw [show Try.prog.bytesOf 62 = 40 from by kernel_rfl] at this
      omega
theorem sopen_tab {H : Type} {enc : TypeId × Value → H} {w : World} {v : Value} {d : DataW H} {p : List MemPlace} (hv : ∃ a len cap, v = .slice a len cap) (h : DataW.Trod enc Try.prog w 0 (fun _ => true) true 27 v d p) (hwt : ∀ n ∈ d.weights Try.prog 27, n ≤ reachBytes) : ∃ L, TabW w v L ∧ Sp.okN L := by
  obtain ⟨a, len, cap, rfl⟩ := hv
  obtain ⟨fuel, hf⟩ := h
  obtain ⟨L, h1, h2⟩ := open_row EI Try.underlying27 (by kernel_rfl) (by decide) (Q := fun x d => SInoRead w x d) (fun n cs d pl hl h => sopen_ino hl h) (by simpa [Value.cells] using hf)
  refine ⟨L, ⟨h1, fun x hx => ?_⟩, ?_⟩
  · rcases h2 with ⟨_, rfl⟩ | ⟨es, sp, hd, _, hq⟩
    · cases hx
    · obtain ⟨i, hi⟩ := List.mem_iff_getElem?.1 hx
      obtain ⟨dd, hdd, hr⟩ := hq i x hi
      refine sgood_of_read hr fun n hn => hwt n ?_
      simp only at hd
      rw [hd]
      simp only [DataW.weights, Try.underlying27, List.mem_cons, List.mem_append]
      right
      left
      exact weights_mem_all (List.mem_of_getElem? hdd) hn
  · intro x hx
    rcases h2 with ⟨_, rfl⟩ | ⟨es, sp, hd, _, hq⟩
    · cases hx
    · obtain ⟨i, hi⟩ := List.mem_iff_getElem?.1 hx
      obtain ⟨dd, hdd, hr⟩ := hq i x hi
      exact hr.2.2.2.1
end Go.Proofs.Ytacghcoikekfeaa
/- Law -/
namespace Go.Proofs.Ytacghcoikekfeaa
set_option maxRecDepth 100000
namespace Law
open Go.ChangeShapes Go.WideShapes Go.ChangeAt Go.RowKit

theorem below_trodAll {H : Type} {enc : TypeId × Value → H} {P : Program} {W W' : World} (hl : laidOutB P = true) (hb : Below W.heap.size W W') :
    ∀ (ts : List TypeId) (vs : List Value) (ds : List (DataW H)) (p : List MemPlace), (∀ t ∈ ts, P.readableRec t = true ∧ t < P.types.size) → (∀ x ∈ p, x.block < W.heap.size) →
      DataW.TrodAll enc P W 0 (fun _ => true) true ts vs ds p → DataW.TrodAll enc P W' 0 (fun b => decide (b < W.heap.size)) true ts vs ds p
  | [], [], [], _, _, _, h => h
  | t :: ts, v :: vs, d :: ds, p, hts, hlt, h => by
    obtain ⟨p0, q, h0, hq, rfl⟩ := h
    have ht := hts t (by simp)
    exact ⟨p0, q, Below.trod hl ht.1 ht.2 h0 hb (fun x hx => hlt x (by simp [hx])), below_trodAll hl hb ts vs ds q (fun u hu => hts u (by simp [hu])) (fun x hx => hlt x (by simp [hx])) hq, rfl⟩

theorem post {H : Type} {enc : TypeId × Value → H} {P : Program} {f : Func} {s : ChangeSpec} {tb : TypeId} {W W' : World} {args : Array Value} {ds gs : List (DataW H)} {before : List MemPlace}
    (hl : laidOutB P = true) (hts : f.params.toList.all (fun t => P.readableRec t && decide (t < P.types.size)) = true) (hrt : f.resultTypes = #[tb]) (hub : P.underlying tb = some .bool)
    (hW : DataW.Whole enc P f.params.toList s.vars false W args.toList ds gs before) (hv : s.vars = [])
    (hspec : s.fn H (ds ++ gs) = { results := [.lit (.bool true)], args := ds }) (hb : Below W.heap.size W W') :
    s.post enc P f false true false false W args (.bool true) W' := by
  have hW' := hW
  obtain ⟨p, q, hA, hV, rfl, hfz, hnd⟩ := hW
  rw [hv] at hV
  obtain ⟨rfl, rfl⟩ := trodVars_none hV
  have hlt : ∀ x ∈ p, x.block < W.heap.size := fun x hx => by simpa using hW'.lt x (by simpa using hx)
  refine ⟨ds, [], p ++ [], [], p, [], hW', ?_, ?_, ?_, hb.frame _, fun h => by cases h⟩
  · rw [hspec, hrt]
    exact trodAll_mk1 (shut_bool hub _)
  · rw [hspec]
    refine below_trodAll hl hb _ _ _ _ (fun t ht => ?_) hlt hA
    have := List.all_eq_true.1 hts t ht
    simpa using this
  · rw [hspec, hv]
    rfl
end Law
end Go.Proofs.Ytacghcoikekfeaa
/- Cas -/
namespace Go.Proofs.Ytacghcoikekfeaa
open Go.ChangeShapes Go.WideShapes Go.ChangeAt Go.RowKit Go.Deep It
set_option maxRecDepth 100000
abbrev VC (a b c d : Int) (s s2 : ByteArray) (k st : Int) : Value := .agg #[.int .i64 a, .int .i64 b, .int .i64 c, .int .i64 d, .string s, .string s2, .int .i64 k, .int .i64 st]
abbrev BC (a b c d : Int) (s s2 : ByteArray) (k st : Int) : Obj := .cells #[.int .i64 a, .int .i64 b, .int .i64 c, .int .i64 d, .string s, .string s2, .int .i64 k, .int .i64 st] 26
theorem case_of {w : World} {A : Nat} {a b c d k st : Int} {s s2 : ByteArray} (h : w.heap[A]? = some (BC a b c d s s2 k st)) :
    w.cell? ⟨A, 0, none⟩ = some (.int .i64 a) ∧ w.cell? ⟨A, 1, none⟩ = some (.int .i64 b) ∧ w.cell? ⟨A, 2, none⟩ = some (.int .i64 c) ∧ w.cell? ⟨A, 3, none⟩ = some (.int .i64 d) ∧ w.cell? ⟨A, 4, none⟩ = some (.string s) ∧ w.cell? ⟨A, 5, none⟩ = some (.string s2) ∧ w.cell? ⟨A, 6, none⟩ = some (.int .i64 k) ∧ w.cell? ⟨A, 7, none⟩ = some (.int .i64 st) := by
  refine ⟨?_, ?_, ?_, ?_, ?_, ?_, ?_, ?_⟩ <;> simp [World.cell?, h]
theorem open_case {H : Type} {enc : TypeId × Value → H} {w : World} {r : Reach} {b0 : Nat} {v : Value} {d : DataW H} {p : List MemPlace} (hv : Value.okWide Try.prog w r b0 26 v) (h : DataW.Trod enc Try.prog w 0 (fun _ => true) true 26 v d p) : ∃ (a b c e : Int) (s s2 : ByteArray) (k st : Int), v = VC a b c e s s2 k st ∧ s.size ≤ maxLen ∧ s2.size ≤ maxLen := by
  obtain ⟨cs, rfl, hsz⟩ := okWide_struct Try.underlying26 hv
  obtain ⟨fuel, hf⟩ := h
  have h8 : cs.toList.length = 8 := by rw [Array.length_toList, hsz]; kernel_rfl
  have hf' : DataW.trod enc Try.prog w 0 (fun _ => true) true fuel 26 cs.toList = some (d, p) := by simpa [Value.cells] using hf
  obtain ⟨xs, m, _, hxy, _, hxl, hg⟩ := DataW.trod_struct Try.underlying26 hf'
  obtain ⟨cl⟩ := cs
  simp only at h8 hg
  match cl, h8 with
  | [c0, c1, c2, c3, c4, c5, c6, c7], _ =>
    have g0 := hg 0 _ rfl
    have g1 := hg 1 _ rfl
    have g2 := hg 2 _ rfl
    have g3 := hg 3 _ rfl
    have g4 := hg 4 _ rfl
    have g5 := hg 5 _ rfl
    have hx6 : xs.length = 6 := by rw [hxl]; rfl
    match xs, hx6 with
    | [y0, y1, y2, y3, y4, y5], _ =>
      simp only [List.getElem_toArray, List.getElem_cons_zero, List.getElem_cons_succ] at g0 g1 g2 g3 g4 g5
      simp only [show Try.prog.cellsOf 24 = 2 from by kernel_rfl, show Try.prog.cellsOf 9 = 1 from by kernel_rfl, show Try.prog.cellsOf 3 = 1 from by kernel_rfl] at g0 g1 g2 g3 g4 g5
      simp at g0 g1 g2 g3 g4 g5
      obtain ⟨z0, z1, m0, _, _, k0, k1⟩ := trod_struct2 Try.underlying24 g0
      obtain ⟨z2, z3, m1, _, _, k2, k3⟩ := trod_struct2 Try.underlying24 g1
      simp only [show Try.prog.cellsOf 3 = 1 from by kernel_rfl] at k0 k1 k2 k3
      simp at k0 k1 k2 k3
      obtain ⟨a, e0, _, _⟩ := DataW.trod_int Try.underlying3 k0
      obtain ⟨b, e1, _, _⟩ := DataW.trod_int Try.underlying3 k1
      obtain ⟨c, e2, _, _⟩ := DataW.trod_int Try.underlying3 k2
      obtain ⟨e, e3, _, _⟩ := DataW.trod_int Try.underlying3 k3
      obtain ⟨s, e4, _, hs4⟩ := DataW.trod_string Try.underlying9 g2
      obtain ⟨s2, e5, _, hs5⟩ := DataW.trod_string Try.underlying9 g3
      obtain ⟨k, e6, _, _⟩ := DataW.trod_int Try.underlying3 g4
      obtain ⟨st, e7, _, _⟩ := DataW.trod_int Try.underlying3 g5
      simp only [List.cons.injEq, and_true] at e0 e1 e2 e3 e4 e5 e6 e7
      subst e0 e1 e2 e3 e4 e5 e6 e7
      exact ⟨a, b, c, e, s, s2, k, st, rfl, hs4, hs5⟩
theorem hand_same (a b : Int) (w : World) : (binOp .eql 24 (.agg #[.int .i64 a, .int .i64 b]) (.agg #[.int .i64 a, .int .i64 b])).run Try.prog w = .ok (.bool true) w := by
  go_simp
end Go.Proofs.Ytacghcoikekfeaa
/- Stays -/
namespace Go.Proofs.Ytacghcoikekfeaa
open Go.ChangeShapes Go.WideShapes Go.ChangeAt Go.RowKit Go.Deep It
set_option maxRecDepth 100000
set_option maxRecDepth 100000
/-- Steps that came in. -/
abbrev OverQ (w : World) (ao : Option Addr) (L : List Stp) : Prop := ∀ i x, L[i]? = some x → ∃ b off, ao = some ⟨b, off, none⟩ ∧ True ∧ b < w.heap.size ∧ ∀ k u, (EQ.cells x)[k]? = some u → w.cell? ⟨b, off + (i * EQ.sz + k), none⟩ = some u
def okS (L : List Stp) : Prop := ∀ x ∈ L, x.2.2.2.1.size ≤ maxLen ∧ x.2.2.2.2.size ≤ maxLen
theorem sp_len {L : List Rw} (h : Sp.isSp (pl L) = true) : L.length ≤ 24 := by
  have := (Sp.right_len (Sp.isSp_iff.1 h).1).2
  simpa using this
theorem open_stp {H : Type} {enc : TypeId × Value → H} {w : World} {n : Nat} {cs : List Value} {d : DataW H} {pl : List MemPlace} (hl : cs.length = EQ.sz) (h : DataW.trod enc Try.prog w 0 (fun _ => true) true n 31 cs = some (d, pl)) : ∃ x : Stp, cs = EQ.cells x ∧ (x.2.2.2.1.size ≤ maxLen ∧ x.2.2.2.2.size ≤ maxLen) := by
  obtain ⟨xs, m, _, hxy, _, hxl, hg⟩ := DataW.trod_struct Try.underlying31 h
  match cs, hl with
  | [c0, c1, c2, c3, c4], _ =>
    have g0 := hg 0 _ rfl
    have g1 := hg 1 _ rfl
    have g2 := hg 2 _ rfl
    have g3 := hg 3 _ rfl
    have g4 := hg 4 _ rfl
    have hx5 : xs.length = 5 := by rw [hxl]; rfl
    match xs, hx5 with
    | [y0, y1, y2, y3, y4], _ =>
      simp only [List.getElem_toArray, List.getElem_cons_zero, List.getElem_cons_succ] at g0 g1 g2 g3 g4
      simp only [show Try.prog.cellsOf 9 = 1 from by kernel_rfl, show Try.prog.cellsOf 3 = 1 from by kernel_rfl] at g0 g1 g2 g3 g4
      simp at g0 g1 g2 g3 g4
      obtain ⟨a, e0, _, _⟩ := DataW.trod_int Try.underlying3 g0
      obtain ⟨b, e1, _, _⟩ := DataW.trod_int Try.underlying3 g1
      obtain ⟨c, e2, _, _⟩ := DataW.trod_int Try.underlying3 g2
      obtain ⟨s, e3, _, hs3⟩ := DataW.trod_string Try.underlying9 g3
      obtain ⟨s2, e4, _, hs4⟩ := DataW.trod_string Try.underlying9 g4
      simp only [List.cons.injEq, and_true] at e0 e1 e2 e3 e4
      subst e0 e1 e2 e3 e4
      exact ⟨(a, b, c, s, s2), rfl, hs3, hs4⟩
theorem open_stps {H : Type} {enc : TypeId × Value → H} {w : World} {v : Value} {d : DataW H} {p : List MemPlace} (hv : ∃ a len cap, v = .slice a len cap) (h : DataW.Trod enc Try.prog w 0 (fun _ => true) true 22 v d p) : ∃ L, AtW EQ w v L ∧ okS L := by
  obtain ⟨a, len, cap, rfl⟩ := hv
  obtain ⟨fuel, hf⟩ := h
  have : Inhabited Stp := ⟨(0, 0, 0, .empty, .empty)⟩
  obtain ⟨L, h1, h2⟩ := open_row EQ Try.underlying22 (by kernel_rfl) (by decide) (Q := fun x _ => x.2.2.2.1.size ≤ maxLen ∧ x.2.2.2.2.size ≤ maxLen) (fun n cs d pl hl h => open_stp hl h) (by simpa [Value.cells] using hf)
  refine ⟨L, h1, fun x hx => ?_⟩
  rcases h2 with ⟨_, rfl⟩ | ⟨es, sp, _, _, hq⟩
  · cases hx
  · obtain ⟨i, hi⟩ := List.mem_iff_getElem?.1 hx
    obtain ⟨d, _, hd⟩ := hq i x hi
    exact hd

end Go.Proofs.Ytacghcoikekfeaa
/- Nam -/
namespace Go.Proofs.Ytacghcoikekfeaa
open It
set_option maxRecDepth 100000
namespace Sp
/-- All ways. -/
def allWays (L : List Ino) : List ByteArray := (walk L 24 0 ⟨#[]⟩).flatMap (ways L)
theorem pathsC_sp {L : List Ino} (h : isSp L = true) : pathsC L = sortT (⟨#[47]⟩ :: allWays L) := by
  unfold pathsC
  rw [if_pos h]
  rfl
theorem flat_congr {α β : Type} {f g : α → List β} : ∀ {l : List α}, (∀ x ∈ l, f x = g x) → l.flatMap f = l.flatMap g
  | [], _ => rfl
  | x :: l, h => by rw [List.flatMap_cons, List.flatMap_cons, h x (by simp), flat_congr fun y hy => h y (List.mem_cons_of_mem _ hy)]
theorem perm_sum {α : Type} (f : α → Nat) {l m : List α} (h : l.Perm m) : (l.map f).sum = (m.map f).sum := by
  induction h with
  | nil => rfl
  | cons x _ ih => simp [ih]
  | swap x y l => simp; omega
  | trans _ _ h1 h2 => exact h1.trans h2
theorem filter_sum {α : Type} (f : α → Nat) (p : α → Bool) : ∀ l : List α, (∀ x ∈ l, p x = false → f x = 0) → ((l.filter p).map f).sum = (l.map f).sum
  | [], _ => rfl
  | x :: l, h => by
    have ih := filter_sum f p l fun y hy => h y (List.mem_cons_of_mem _ hy)
    cases hp : p x with
    | true => rw [List.filter_cons_of_pos hp, List.map_cons, List.map_cons, List.sum_cons, List.sum_cons, ih]
    | false =>
      have h0 := h x (by simp) hp
      rw [List.filter_cons_of_neg (by rw [hp]; simp), List.map_cons, List.sum_cons, ih, h0, Nat.zero_add]
theorem walk_perm {L : List Ino} (h : isSp L = true) : ((walk L 24 0 ⟨#[]⟩).map (·.1)).Perm (dirs L) := by
  have ht := isSp_tree h
  have hl := (right_len (isSp_iff.1 h).1).2
  have hn := walk_nodup ht (f := 24) (path := ⟨#[]⟩) (show Anc L 0 0 0 from rfl)
  have hdn : (dirs L).Nodup := List.Pairwise.filter _ List.nodup_range
  refine (List.perm_ext_iff_of_nodup hn hdn).2 fun c => ⟨fun hc => ?_, fun hc => ?_⟩
  · obtain ⟨z, hz, rfl⟩ := List.mem_map.1 hc
    obtain ⟨d, ha⟩ := walk_mem ht 24 0 _ z hz
    exact mem_dirs.2 (anc_dir ht ha)
  · obtain ⟨d, ha⟩ := isSp_reach h (mem_dirs.1 hc)
    have := anc_lt ht ha
    obtain ⟨z, hz, hzc⟩ := walk_has ht 24 0 ⟨#[]⟩ d c ha (by omega)
    exact List.mem_map.2 ⟨z, hz, hzc⟩
theorem all_len (L : List Ino) : ((List.range L.length).map fun i => (entsAt L i).length).sum = (allEnts L).length := by
  have e : (List.range L.length).map (fun i => L[i]?.getD zeroI) = L := by
    refine List.ext_getElem? fun i => ?_
    rw [List.getElem?_map]
    by_cases hi : i < L.length
    · rw [List.getElem?_range hi]
      simp [List.getElem?_eq_getElem hi]
    · rw [List.getElem?_eq_none (by simpa using hi), List.getElem?_eq_none (by omega)]
      rfl
  have e2 : (allEnts L).length = (L.map fun x => x.ents.length).sum := by
    unfold allEnts
    rw [List.length_flatMap]
  rw [e2]
  conv => rhs; rw [← e]
  rw [List.map_map]
  congr 1
  refine List.map_congr_left fun i hi => ?_
  have := List.mem_range.1 hi
  simp [entsAt, List.getElem?_eq_getElem this]
theorem ways_len {L : List Ino} (h : isSp L = true) : (allWays L).length = (allEnts L).length := by
  unfold allWays
  rw [List.length_flatMap]
  have e1 : ((walk L 24 0 ⟨#[]⟩).map fun z => (ways L z).length) = ((walk L 24 0 ⟨#[]⟩).map (·.1)).map (fun no => (entsAt L no).length) := by
    rw [List.map_map]
    refine List.map_congr_left fun z _ => ?_
    simp [ways]
  rw [e1, perm_sum _ (walk_perm h), ← all_len]
  unfold dirs
  refine filter_sum _ _ _ fun i hi hd => ?_
  cases he : entsAt L i with
  | nil => rfl
  | cons e r =>
    have := ents_isdir (isSp_iff.1 h).1 (e := e) (p := i) (by rw [he]; simp)
    rw [this] at hd
    cases hd
theorem paths_len {L : List Ino} (h : isSp L = true) : (pathsC L).length = (allEnts L).length + 1 := by
  rw [pathsC_sp h, (sortT_perm _).length_eq, List.length_cons, ways_len h]
theorem way_root (s : ByteArray) : way ⟨#[]⟩ s = ⟨#[47]⟩ ++ s := by
  unfold way
  apply ByteArray.ext
  simp
theorem way_list (p s : ByteArray) : (way p s).data.toList = p.data.toList ++ 47 :: s.data.toList := by
  unfold way
  simp
theorem walk_size {L : List Ino} : ∀ (f no : Nat) (path : ByteArray) (z : Nat × ByteArray), z ∈ walk L f no path → path.size ≤ z.2.size
  | 0, _, _, _, hz => by cases hz
  | f + 1, no, path, z, hz => by
    rw [walk_succ] at hz
    rcases List.mem_cons.1 hz with rfl | hz
    · exact Nat.le_refl _
    · obtain ⟨e, he, hze⟩ := List.mem_flatMap.1 hz
      have := walk_size f _ _ z (mem_step hze).2
      rw [way_size] at this
      omega
theorem walk_bare {L : List Ino} {f : Nat} {z : Nat × ByteArray} (hz : z ∈ walk L f 0 ⟨#[]⟩) (h0 : z.2.size = 0) : z.1 = 0 := by
  cases f with
  | zero => cases hz
  | succ f =>
    rw [walk_succ] at hz
    rcases List.mem_cons.1 hz with rfl | hz
    · rfl
    · obtain ⟨e, he, hze⟩ := List.mem_flatMap.1 hz
      have := walk_size f _ _ z (mem_step hze).2
      rw [way_size] at this
      omega
/-- A way of one name alone is a name of the root. -/
theorem way_new {L : List Ino} {s : ByteArray} (hs : (47 : UInt8) ∉ s.data.toList) (h0 : ∀ e ∈ entsAt L 0, e.1 ≠ s) : way ⟨#[]⟩ s ∉ allWays L := by
  intro hm
  obtain ⟨z, hz, hw⟩ := List.mem_flatMap.1 hm
  obtain ⟨e, he, hwe⟩ := List.mem_map.1 hw
  have hl := congrArg (fun x : ByteArray => x.data.toList) hwe
  rw [way_list, way_list] at hl
  rcases walk_head 24 0 ⟨#[]⟩ z (.inl rfl) hz with h | h
  · have hz0 := walk_bare hz h
    have hz1 : z.2.data.toList = [] := by
      have h1 : z.2.data.size = 0 := h
      rw [← Array.length_toList] at h1
      exact List.eq_nil_of_length_eq_zero h1
    rw [hz1] at hl
    simp at hl
    rw [hz0] at he
    refine h0 e he ?_
    apply ByteArray.ext
    exact hl
  · cases hp : z.2.data.toList with
    | nil => rw [hp] at h; cases h
    | cons a r =>
      rw [hp] at hl
      simp at hl
      exact hs (by rw [← hl.2]; simp)
theorem walk_same {L L' : List Ino} (hd : ∀ c, dirAt L' c = dirAt L c) (he : ∀ no f path, (entsAt L' no).flatMap (step L f path) = (entsAt L no).flatMap (step L f path)) : ∀ (f no : Nat) (path : ByteArray), walk L' f no path = walk L f no path
  | 0, _, _ => rfl
  | f + 1, no, path => by
    rw [walk_succ, walk_succ, ← he]
    congr 1
    refine flat_congr fun e _ => ?_
    unfold step
    rw [hd]
    split
    · exact walk_same hd he f _ _
    · rfl
/-- The ways with a file more in the root. -/
theorem ways_make {L L' : List Ino} {e2 : En} (h : isSp L = true) (h0 : entsAt L' 0 = entsAt L 0 ++ [e2]) (hp : ∀ p, p ≠ 0 → entsAt L' p = entsAt L p) (hd : ∀ c, dirAt L' c = dirAt L c) (hf : dirAt L e2.2.2.1.toNat = false) :
    (allWays L').Perm (way ⟨#[]⟩ e2.1 :: allWays L) := by
  have hw := walk_same (L := L) (L' := L') hd (fun no f path => by
    by_cases hn : no = 0
    · subst hn
      rw [h0, List.flatMap_append, List.flatMap_cons, List.flatMap_nil, step_file hf]
      simp
    · rw [hp no hn])
  unfold allWays
  rw [hw]
  have hn := walk_nodup (isSp_tree h) (f := 24) (path := ⟨#[]⟩) (show Anc L 0 0 0 from rfl)
  rw [walk_succ] at hn ⊢
  rw [List.map_cons, List.nodup_cons] at hn
  rw [List.flatMap_cons, List.flatMap_cons]
  have e1 : ways L' (0, ⟨#[]⟩) = ways L (0, ⟨#[]⟩) ++ [way ⟨#[]⟩ e2.1] := by
    unfold ways
    rw [h0, List.map_append]
    rfl
  have e3 : ((entsAt L 0).flatMap (step L 23 ⟨#[]⟩)).flatMap (ways L') = ((entsAt L 0).flatMap (step L 23 ⟨#[]⟩)).flatMap (ways L) := by
    refine flat_congr fun z hz => ?_
    unfold ways
    rw [hp z.1 fun hz0 => hn.1 (List.mem_map.2 ⟨z, hz, hz0⟩)]
  rw [e1, e3, List.append_assoc, List.singleton_append]
  exact List.perm_middle
/-- Is a text another one than p? -/
def nq (p x : ByteArray) : Bool := !(x.toList == p.toList)
theorem nq_iff {p x : ByteArray} : nq p x = true ↔ x ≠ p := by
  unfold nq
  rw [toL, toL]
  simp only [Bool.not_eq_true', beq_eq_false_iff_ne, ne_eq]
  refine not_congr ⟨fun h => ?_, fun h => by rw [h]⟩
  cases x
  cases p
  simpa using h
theorem sort_less {A B : List ByteArray} {p : ByteArray} (hA : A.Perm (p :: B)) (hp : p ∉ B) (h1 : p ≠ ⟨#[47]⟩) : (sortT (⟨#[47]⟩ :: A)).filter (nq p) = sortT (⟨#[47]⟩ :: B) := by
  have hb : (⟨#[47]⟩ :: p :: B : List ByteArray).filter (nq p) = ⟨#[47]⟩ :: B := by
    rw [List.filter_cons_of_pos (nq_iff.2 (Ne.symm h1)), List.filter_cons_of_neg (by rw [nq_iff]; simp)]
    congr 1
    exact List.filter_eq_self.2 fun x hx => nq_iff.2 fun e => hp (by rw [← e]; exact hx)
  have hperm : ((sortT (⟨#[47]⟩ :: A)).filter (nq p)).Perm (sortT (⟨#[47]⟩ :: B)) := by
    refine (((sortT_perm _).trans (hA.cons _)).filter (nq p)).trans ?_
    rw [hb]
    exact (sortT_perm _).symm
  refine List.Perm.eq_of_pairwise (le := leT) (fun a b _ _ h1 h2 => ?_) ((sortT_sorted _).filter _) (sortT_sorted _) hperm
  have := List.le_antisymm h1 h2
  cases a
  cases b
  simpa using this
/-- What Make tells, in full. -/
theorem make_form {L : List Ino} {a b kind st : Int} {s : ByteArray} (h : mkE (chk isSp) L a b s kind st = 0) :
    ∃ (kc : Nat) (xc : Ino) (nn : Nat) (g : Int), isSp L = true ∧ a = kc ∧ L[kc]? = some xc ∧ xc.gen = b ∧ xc.kind = 2 ∧ mkH (chk isSp) L a b s kind st = ((nn : Int), g) ∧ Fo.addErr xc.ents xc.next s nn g = 0 ∧ kc ≠ nn ∧ (∀ x, L[nn]? = some x → x.kind = 0) ∧
      ∀ i, (mkT (chk isSp) L a b s kind st)[i]? = if i = kc then some (filled xc (xc.ents ++ [(s, xc.next + 1, (nn : Int), g)]) (xc.next + 1) st) else if i = nn then some (fresh g kind st) else L[i]? := by
  have h0 := h
  unfold mkE at h
  by_cases hl : makeErr (chk isSp) L a b s kind st = 0
  · rw [if_pos hl] at h
    obtain ⟨⟨hc0, hst⟩, hkind, hdc⟩ := makeErr_zero hl
    by_cases hm : It.makeErr L kind st = 0
    · rw [if_pos hm] at h
      have hs := chk_zero hc0
      obtain ⟨hr, -, hn24, e1, e2⟩ := make_next hm
      obtain ⟨kc, xc, hc, hxc, hgc, hkc, hec, hnc, hfc, -⟩ := dir_get hdc
      have hic := find_same hfc hc hxc
      have hnn : ∃ nn : Nat, (next L).1 = nn ∧ nn ≤ L.length ∧ ∀ x, L[nn]? = some x → x.kind = 0 := by
        rcases next_cases L with ⟨j, y, hy, hyk, -, e⟩ | e
        · exact ⟨j, by rw [e], Nat.le_of_lt (List.getElem?_eq_some_iff.1 hy).1, fun x hx => by rw [hx] at hy; cases hy; exact hyk⟩
        · exact ⟨L.length, by rw [e], Nat.le_refl _, fun x hx => by simp at hx⟩
      obtain ⟨nn, hnn1, hnl, hnn2⟩ := hnn
      rw [hec, hnc, e2, hnn1] at h
      have hne : kc ≠ nn := by
        rintro rfl
        have := hnn2 xc hxc
        omega
      refine ⟨kc, xc, nn, (next L).2, hs, hc, hxc, hgc, hkc, ?_, h, hne, hnn2, fun i => ?_⟩
      · unfold mkH
        rw [if_pos h0, e2, ← hnn1]
      · have e3 : mkT (chk isSp) L a b s kind st = (put L nn (fresh (next L).2 kind st)).set kc (filled xc (xc.ents ++ [(s, xc.next + 1, (nn : Int), (next L).2)]) (xc.next + 1) st) := by
          unfold mkT
          rw [if_pos h0, hic, e1, e2, hnn1, hc, show ((nn : Int)).toNat = nn by omega, show ((kc : Int)).toNat = kc by omega]
        have hg1 := put_at (x := fresh (next L).2 kind st) hnl
        have hc1 : (put L nn (fresh (next L).2 kind st))[kc]? = some xc := by rw [hg1, if_neg hne]; exact hxc
        have hcl := (List.getElem?_eq_some_iff.1 hc1).1
        rw [e3, List.getElem?_set]
        by_cases hi : i = kc
        · subst hi
          simp [hcl]
        · rw [if_neg (fun e => hi e.symm), if_neg hi]
          exact hg1 i
    · rw [if_neg hm] at h
      exact absurd h hm
  · rw [if_neg hl] at h
    exact absurd h hl
theorem look_at {L : List Ino} {k : Nat} {x : Ino} (hs : isSp L = true) (hx : L[k]? = some x) (hk : x.kind = 2) (s : ByteArray) : atErr (chk isSp) L k x.gen s = Fo.findErr x.ents x.next s ∧ atH (chk isSp) L k x.gen s = (Fo.found x.ents x.next s).2.2 ∧ lookErr L k x.gen s = Fo.findErr x.ents x.next s ∧ lookH L k x.gen s = (Fo.found x.ents x.next s).2.2 := by
  have hr := (isSp_iff.1 hs).1
  have hn : names L k x.gen = true := names_iff.2 ⟨k, x, hx, rfl, rfl, by omega⟩
  have hf : findErr L k x.gen = 0 := by unfold findErr; rw [if_pos hr, if_pos hn]
  have hi := find_same hf rfl hx
  obtain ⟨d1, d2, d3⟩ := dirErr_hit hf (by rw [hi]; exact hk)
  rw [hi] at d2 d3
  have hc : chk isSp L = 0 := by unfold chk; rw [if_pos hs]
  have l1 : lookErr L k x.gen s = Fo.findErr x.ents x.next s := by unfold lookErr; rw [if_pos d1, d2, d3]
  have l2 : lookH L k x.gen s = (Fo.found x.ents x.next s).2.2 := by unfold lookH; rw [if_pos d1, d2, d3]
  refine ⟨?_, ?_, l1, l2⟩
  · unfold atErr
    rw [if_pos hc, l1]
  · unfold atH
    rw [if_pos hc, l2]
/-- A file that is made in the root is found, and the ways are those that were, and one more. -/
theorem make_names {L : List Ino} {b st : Int} {s : ByteArray} (h : mkE (chk isSp) L 0 b s 1 st = 0) :
    isSp L = true ∧ isSp (mkT (chk isSp) L 0 b s 1 st) = true ∧ atErr (chk isSp) (mkT (chk isSp) L 0 b s 1 st) 0 b s = 0 ∧ atH (chk isSp) (mkT (chk isSp) L 0 b s 1 st) 0 b s = mkH (chk isSp) L 0 b s 1 st ∧
      names (mkT (chk isSp) L 0 b s 1 st) (mkH (chk isSp) L 0 b s 1 st).1 (mkH (chk isSp) L 0 b s 1 st).2 = true ∧ (pathsC (mkT (chk isSp) L 0 b s 1 st)).length = (pathsC L).length + 1 ∧ (pathsC (mkT (chk isSp) L 0 b s 1 st)).filter (nq (⟨#[47]⟩ ++ s)) = pathsC L ∧ s.size ≤ 32 := by
  have hs' := make_stays h
  obtain ⟨kc, xc, nn, g, hs, hk0, hxc, hgc, hkc, hH, hadd, hne, hnone, hg⟩ := make_form h
  obtain ⟨L', hL'⟩ : ∃ L', mkT (chk isSp) L 0 b s 1 st = L' := ⟨_, rfl⟩
  rw [hL'] at hs' hg ⊢
  rw [hH]
  have hk : kc = 0 := by omega
  subst hk
  have hR := add_right hadd
  obtain ⟨-, hok, -, hat, -⟩ := Fo.add_zero hadd
  have hx0 : L'[0]? = some (filled xc (xc.ents ++ [(s, xc.next + 1, (nn : Int), g)]) (xc.next + 1) st) := by rw [hg, if_pos rfl]
  obtain ⟨l1, l2, -, -⟩ := look_at hs' hx0 hkc s
  have hgen : (filled xc (xc.ents ++ [(s, xc.next + 1, (nn : Int), g)]) (xc.next + 1) st).gen = b := hgc
  rw [hgen] at l1 l2
  have hfa := Fo.found_at (i := xc.ents.length) (x := (s, xc.next + 1, (nn : Int), g)) hR (by simp)
  have hno : ∀ e ∈ xc.ents, e.1 ≠ s := by
    rcases Fo.at_or (Fo.called s) xc.ents with ⟨-, hall⟩ | ⟨k, x, ht, -, -, -⟩
    · exact fun x hx => Fo.called_not.1 (hall x hx)
    · rw [hat] at ht
      omega
  have e0 : entsAt L 0 = xc.ents := by unfold entsAt; rw [hxc]
  have e0' : entsAt L' 0 = entsAt L 0 ++ [(s, xc.next + 1, (nn : Int), g)] := by
    rw [e0]
    unfold entsAt
    rw [hx0]
    rfl
  have hr := (isSp_iff.1 hs).1
  have hperm : (allWays L').Perm (way ⟨#[]⟩ s :: allWays L) := by
    refine ways_make (e2 := (s, xc.next + 1, (nn : Int), g)) hs e0' (fun p hp => ?_) (fun c => ?_) ?_
    · have hgp := hg p
      rw [if_neg hp] at hgp
      by_cases hpn : p = nn
      · subst hpn
        rw [if_pos rfl] at hgp
        have h1 : entsAt L' p = [] := by unfold entsAt; rw [hgp]; rfl
        rw [h1]
        cases he : entsAt L p with
        | nil => rfl
        | cons e r =>
          have := ents_isdir hr (e := e) (p := p) (by rw [he]; simp)
          obtain ⟨x, hx, hkx⟩ := dirAt_iff.1 this
          have := hnone x hx
          omega
      · rw [if_neg hpn] at hgp
        unfold entsAt
        rw [hgp]
    · have hgp := hg c
      by_cases hc0 : c = 0
      · subst hc0
        have t1 : dirAt L' 0 = true := dirAt_iff.2 ⟨_, hx0, hkc⟩
        have t2 : dirAt L 0 = true := dirAt_iff.2 ⟨_, hxc, hkc⟩
        rw [t1, t2]
      · rw [if_neg hc0] at hgp
        by_cases hpn : c = nn
        · subst hpn
          rw [if_pos rfl] at hgp
          have t1 : dirAt L' c = false := by unfold dirAt; rw [hgp]; rfl
          rw [t1]
          cases hd : dirAt L c with
          | false => rfl
          | true =>
            obtain ⟨x, hx, hkx⟩ := dirAt_iff.1 hd
            have := hnone x hx
            omega
        · rw [if_neg hpn] at hgp
          unfold dirAt
          rw [hgp]
    · show dirAt L ((nn : Int)).toNat = false
      rw [show ((nn : Int)).toNat = nn by omega]
      cases hd : dirAt L nn with
      | false => rfl
      | true =>
        obtain ⟨x, hx, hkx⟩ := dirAt_iff.1 hd
        have := hnone x hx
        omega
  have hclean := hok.2.2.2.2
  have hsl : (47 : UInt8) ∉ s.data.toList := fun hm => by
    obtain ⟨i, hi, he⟩ := List.mem_iff_getElem.1 hm
    have hi' : i < s.size := by simpa using hi
    refine (hclean i hi' hi').1 ?_
    have h47 : s[i]'hi' = 47 := by rw [← he]; rfl
    rw [h47]
    rfl
  have hnew : way ⟨#[]⟩ s ∉ allWays L := way_new hsl (by rw [e0]; exact hno)
  refine ⟨hs, hs', l1.trans hfa.1, l2.trans (congrArg (fun x : Ent => x.2.2) hfa.2.1), ?_, ?_, ?_, hok.2.1⟩
  · refine names_iff.2 ⟨nn, fresh g 1 st, ?_, rfl, rfl, by show (1 : Int) ≠ 0; decide⟩
    rw [hg, if_neg (fun e => hne e.symm), if_pos rfl]
  · rw [paths_len hs', paths_len hs, ← ways_len hs', ← ways_len hs, hperm.length_eq, List.length_cons]
  · rw [pathsC_sp hs', pathsC_sp hs, ← way_root]
    refine sort_less hperm hnew fun he => ?_
    have := congrArg ByteArray.size he
    rw [way_size] at this
    have h1 := hok.1
    have h2 : (⟨#[47]⟩ : ByteArray).size = 1 := rfl
    have h3 : (⟨#[]⟩ : ByteArray).size = 0 := rfl
    omega
theorem name_once (s : ByteArray) : ∀ l : List Ent, (l.map (·.1)).Nodup → l.countP (fun z => z.1.toList == s.toList) ≤ 1
  | [], _ => by simp
  | x :: l, h => by
    rw [List.map_cons, List.nodup_cons] at h
    have ih := name_once s l h.2
    rw [List.countP_cons]
    split
    · rename_i hx
      have h0 : l.countP (fun z => z.1.toList == s.toList) = 0 := List.countP_eq_zero.2 fun y hy hc => h.1 (List.mem_map.2 ⟨y, hy, by
        have e1 := beq_iff_eq.1 hx
        have e2 := beq_iff_eq.1 hc
        rw [toL] at e1 e2
        apply ByteArray.ext
        rw [← Array.toList_inj, e2, e1]⟩)
      omega
    · omega
/-- A name that is moved in the root is found there alone. -/
theorem rename_names {L : List Ino} {b st : Int} {s s2 : ByteArray} (h : rnE (chk isSp) insB L 0 b s 0 b s2 st = 0) :
    isSp (rnT (chk isSp) insB L 0 b s 0 b s2 st) = true ∧ atErr (chk isSp) (rnT (chk isSp) insB L 0 b s 0 b s2 st) 0 b s = 402 ∧ atErr (chk isSp) (rnT (chk isSp) insB L 0 b s 0 b s2 st) 0 b s2 = 0 ∧ atH (chk isSp) (rnT (chk isSp) insB L 0 b s 0 b s2 st) 0 b s2 = atH (chk isSp) L 0 b s ∧
      (pathsC (rnT (chk isSp) insB L 0 b s 0 b s2 st)).length = (pathsC L).length := by
  have hs' := rename_stays h
  have h0 := h
  unfold rnE at h
  by_cases hl : toErr (chk isSp) L st 0 b s = 0
  · rw [if_pos hl] at h
    obtain ⟨kc, xc, j, e, kt, xt, ha, hxc, hgc, hkc, hfc, hff, hp, hj, hH, hek, hk0, hxt, hgt, hkt0, hlt, hft, hit, hic, hr, hst, hlc⟩ := to_zero isSp_means hl
    have hs0 : stErr (chk isSp) L st = 0 := by
      unfold toErr at hl
      by_cases h2 : stErr (chk isSp) L st = 0
      · exact h2
      · rw [if_neg h2] at hl
        exact absurd hl h2
    have hs := chk_zero (stErr_zero hs0).1
    have hk : kc = 0 := by omega
    subst hk
    have hHe : atH (chk isSp) L 0 b s = e.2.2 := by
      have : toH (chk isSp) L st 0 b s = atH (chk isSp) L 0 b s := by
        unfold toH atH
        rw [if_pos hs0, if_pos (stErr_zero hs0).1]
      rw [← this]
      exact hH
    rw [hH] at h
    by_cases hm : moveErr insB L e.2.2.1 0 b s2 = 0
    · rw [if_pos hm] at h
      have hlen1 : ((0 : Int)).toNat = 0 := rfl
      have eL : lessDir L 0 b s st = L.set 0 (filled xc (xc.ents.eraseIdx j) xc.next st) := by
        unfold lessDir
        rw [hic, hp, show ((j : Int)).toNat = j by omega]
        rfl
      have hcl := (List.getElem?_eq_some_iff.1 hxc).1
      have eM : midI L 0 b s st 0 = filled xc (xc.ents.eraseIdx j) xc.next st := by
        unfold midI
        rw [eL, hlen1, List.getElem?_set_self hcl]
        rfl
      have eT : rnT (chk isSp) insB L 0 b s 0 b s2 st = L.set 0 (filled (filled xc (xc.ents.eraseIdx j) xc.next st) (xc.ents.eraseIdx j ++ [(s2, xc.next + 1, e.2.2.1, e.2.2.2)]) (xc.next + 1) st) := by
        unfold rnT
        rw [if_pos h0, eM, eL, hH, hlen1, List.set_set]
        rfl
      rw [eM] at h
      rw [eT] at hs' ⊢
      obtain ⟨y, hy⟩ : ∃ y, y = filled (filled xc (xc.ents.eraseIdx j) xc.next st) (xc.ents.eraseIdx j ++ [(s2, xc.next + 1, e.2.2.1, e.2.2.2)]) (xc.next + 1) st := ⟨_, rfl⟩
      have y1 : y.ents = xc.ents.eraseIdx j ++ [(s2, xc.next + 1, e.2.2.1, e.2.2.2)] := by rw [hy]; rfl
      have y2 : y.next = xc.next + 1 := by rw [hy]; rfl
      have y3 : y.gen = b := by rw [hy]; exact hgc
      have y4 : y.kind = 2 := by rw [hy]; exact hkc
      have hRy : Fo.Right y.ents y.next := by rw [y1, y2]; exact add_right h
      rw [← hy] at hs' ⊢
      have hy0 : (L.set 0 y)[0]? = some y := List.getElem?_set_self hcl
      obtain ⟨l1, -, -, -⟩ := look_at hs' hy0 y4 s
      obtain ⟨m1, m2, -, -⟩ := look_at hs' hy0 y4 s2
      rw [y3] at l1 m1 m2
      obtain ⟨-, -, k1, -⟩ := look_at hs hxc hkc s
      obtain ⟨-, -, k2, -⟩ := look_at hs hxc hkc s2
      rw [hgc] at k1 k2
      have hnm : nameErr L 0 b s2 = 0 := by
        unfold moveErr at hm
        split at hm
        · exact absurd hm (by decide)
        · exact hm
      have hls2 := (nameErr_zero hnm).2
      have hss : s ≠ s2 := by
        rintro rfl
        have e1 : lookErr L ((0 : Nat) : Int) b s = 402 := hls2
        rw [k1, hff] at e1
        exact absurd e1 (by decide)
      have hfa := Fo.found_at (i := (xc.ents.eraseIdx j).length) (x := (s2, xc.next + 1, e.2.2.1, e.2.2.2)) hRy (by rw [y1]; simp)
      have hR := ((isSp_ok hs 0 xc hxc).1 hkc).1
      rcases Fo.findErr_or xc.ents xc.next s with ⟨j', e', -, hp', hj', hce, -, -, hok⟩ | ⟨-, h4⟩
      · have hjj : j' = j := by omega
        subst hjj
        rw [hj] at hj'
        obtain rfl : e = e' := Option.some.inj hj'
        have hes : e.1 = s := Fo.called_iff.1 hce
        have hnone : ∀ x ∈ y.ents, x.1 ≠ s := by
          intro x hx hxs
          rw [y1] at hx
          rcases List.mem_append.1 hx with hx | hx
          · have hap := hR.2.2
            unfold Fo.apart at hap
            have h2 := name_once s _ hap
            obtain ⟨f, hf⟩ : ∃ f : Ent → Bool, f = fun z => z.1.toList == s.toList := ⟨_, rfl⟩
            rw [← hf] at h2
            have hcnt := cerase f xc.ents j' e hj
            have he1 : f e = true := by rw [hf]; show (e.1.toList == s.toList) = true; rw [hes]; exact beq_self_eq_true _
            rw [if_pos he1] at hcnt
            have h1 : 0 < (xc.ents.eraseIdx j').countP f := List.countP_pos_iff.2 ⟨x, hx, by rw [hf]; show (x.1.toList == s.toList) = true; rw [hxs]; exact beq_self_eq_true _⟩
            omega
          · rw [List.mem_singleton.1 hx] at hxs
            exact hss hxs.symm
        have hmiss : Fo.findErr y.ents y.next s = 402 := by
          refine (Fo.findErr_miss (Fo.ask_zero hRy hok) ?_).1
          rcases Fo.at_or (Fo.called s) y.ents with ⟨hh, -⟩ | ⟨k, x, -, hx, hc, -⟩
          · exact hh
          · exact absurd (Fo.called_iff.1 hc) (hnone x (List.mem_of_getElem? hx))
        refine ⟨hs', l1.trans hmiss, m1.trans hfa.1, ?_, ?_⟩
        · rw [hHe]
          have m3 : atH (chk isSp) (L.set 0 y) 0 b s2 = (Fo.found y.ents y.next s2).2.2 := m2
          rw [m3, hfa.2.1]
        · rw [paths_len hs', paths_len hs]
          have c := cset (fun _ => true) L 0 xc y hxc
          simp only [List.countP_true] at c
          have hl1 : y.ents.length = xc.ents.length := by
            rw [y1, List.length_append, List.length_singleton]
            have hjl := (List.getElem?_eq_some_iff.1 hj).1
            rw [List.length_eraseIdx, if_pos hjl]
            omega
          omega
      · omega
    · rw [if_neg hm] at h
      exact absurd h hm
  · rw [if_neg hl] at h
    exact absurd h hl
end Sp
end Go.Proofs.Ytacghcoikekfeaa
