/-
  The texts OpenS, Law, Cas, as one.
-/
import Derived.WalkKit
import Derived.ProofKit
import Derived.Test.YtacghcoikekfeaaGreatRows
import Derived.Test.YtacghcoikekfeaaGreatM15
/- OpenS -/
namespace Go.Proofs.YtacghcoikekfeaaGreat
open Go.ChangeShapes Go.WideShapes Go.ChangeAt Go.RowKit Go.Deep It
set_option maxRecDepth 100000
theorem sopen_ents {H : Type} {enc : TypeId × Value → H} {w : World} {fuel : Nat} {v : Value} {dx : DataW H × List MemPlace} (hf : DataW.trod enc Tryz.prog w 0 (fun _ => true) true fuel 63 [v] = some dx) : ∃ l, AtW EE w v l ∧ (∀ x ∈ l, x.1.size ≤ maxLen) ∧ len2 dx.1 l.length := by
  have : Inhabited (ByteArray × Int × Int × Int) := ⟨(.empty, 0, 0, 0)⟩
  obtain ⟨l, h1, h2⟩ := open_row EE Tryz.underlying63 (by kernel_rfl) (by decide) (Q := fun x _ => x.1.size ≤ maxLen) (fun n cs d pl hl h => by
    obtain ⟨xs, m, _, _, _, hxl, hg⟩ := DataW.trod_struct Tryz.underlying69 h
    match cs, hl with
    | [c0, c1, c2, c3], _ =>
      have g0 := hg 0 _ rfl
      have g1 := hg 1 _ rfl
      have g2 := hg 2 _ rfl
      have hx3 : xs.length = 3 := by rw [hxl]; rfl
      match xs, hx3 with
      | [y0, y1, y2], _ =>
        simp only [List.getElem_toArray, List.getElem_cons_zero, List.getElem_cons_succ] at g0 g1 g2
        simp only [show Tryz.prog.cellsOf 9 = 1 from by kernel_rfl, show Tryz.prog.cellsOf 3 = 1 from by kernel_rfl, show Tryz.prog.cellsOf 31 = 2 from by kernel_rfl] at g0 g1 g2
        simp at g0 g1 g2
        obtain ⟨z0, z1, m2, _, _, k0, k1⟩ := trod_struct2 Tryz.underlying31 g2
        simp only [show Tryz.prog.cellsOf 3 = 1 from by kernel_rfl] at k0 k1
        simp at k0 k1
        obtain ⟨s, e0, _, hs0⟩ := DataW.trod_string Tryz.underlying9 g0
        obtain ⟨a, e1, _, _⟩ := DataW.trod_int Tryz.underlying3 g1
        obtain ⟨b, e2, _, _⟩ := DataW.trod_int Tryz.underlying3 k0
        obtain ⟨c, e3, _, _⟩ := DataW.trod_int Tryz.underlying3 k1
        simp only [List.cons.injEq, and_true] at e0 e1 e2 e3
        subst e0
        subst e1
        subst e2
        subst e3
        exact ⟨(s, a, b, c), rfl, hs0⟩) hf
  refine ⟨l, h1, fun x hx => ?_, ?_⟩
  · rcases h2 with ⟨_, rfl⟩ | ⟨es, sp, he, _, hq⟩
    · cases hx
    · obtain ⟨i, hi⟩ := List.mem_iff_getElem?.1 hx
      obtain ⟨d, _, hd⟩ := hq i x hi
      exact hd
  rcases h2 with ⟨_, rfl⟩ | ⟨es, sp, he, hl, _⟩
  · exact .inl rfl
  · exact .inr ⟨es, sp, he, hl⟩
/-- What an inode that came in is, and how it reads. -/
def SInoRead {H : Type} (w : World) (x : Rw) (d : DataW H) : Prop := AtW ER w (.slice x.rp x.rn x.rc) x.i.runs ∧ okFields x.i.runs ∧ AtW EE w (.slice x.ep x.en x.ec) x.i.ents ∧ (∀ e ∈ x.i.ents, e.1.size ≤ maxLen) ∧ ∃ y0 y1 y2 y3 y4, d = .agg [y0, y1, y2, y3, y4] ∧ len2 y2 x.i.runs.length ∧ len2 y3 x.i.ents.length
theorem sopen_ino {H : Type} {enc : TypeId × Value → H} {w : World} {n : Nat} {cs : List Value} {d : DataW H} {pl : List MemPlace} (hl : cs.length = 8) (h : DataW.trod enc Tryz.prog w 0 (fun _ => true) true n 65 cs = some (d, pl)) : ∃ x : Rw, cs = EI.cells x ∧ SInoRead w x d := by
  obtain ⟨xs, m, _, hxy, _, hxl, hg⟩ := DataW.trod_struct Tryz.underlying65 h
  match cs, hl with
  | [c0, c1, c2, c3, c4, c5, c6, c7], _ =>
    have g0 := hg 0 _ rfl
    have g1 := hg 1 _ rfl
    have g2 := hg 2 _ rfl
    have g3 := hg 3 _ rfl
    have g4 := hg 4 _ rfl
    have hx5 : xs.length = 5 := by rw [hxl]; rfl
    match xs, hx5 with
    | [y0, y1, y2, y3, y4], _ =>
      simp only [List.getElem_toArray, List.getElem_cons_zero, List.getElem_cons_succ] at g0 g1 g2 g3 g4
      simp only [show Tryz.prog.cellsOf 62 = 1 from by kernel_rfl, show Tryz.prog.cellsOf 63 = 1 from by kernel_rfl, show Tryz.prog.cellsOf 3 = 1 from by kernel_rfl, show Tryz.prog.cellsOf 61 = 4 from by kernel_rfl] at g0 g1 g2 g3 g4
      simp at g0 g1 g2 g3 g4
      obtain ⟨zs, m2, _, _, _, hzl, hz⟩ := DataW.trod_struct Tryz.underlying61 g1
      have k0 := hz 0 _ rfl
      have k1 := hz 1 _ rfl
      have k2 := hz 2 _ rfl
      have k3 := hz 3 _ rfl
      have hz4 : zs.length = 4 := by rw [hzl]; rfl
      match zs, hz4 with
      | [z0, z1, z2, z3], _ =>
        simp only [List.getElem_toArray, List.getElem_cons_zero, List.getElem_cons_succ] at k0 k1 k2 k3
        simp only [show Tryz.prog.cellsOf 3 = 1 from by kernel_rfl] at k0 k1 k2 k3
        simp at k0 k1 k2 k3
        obtain ⟨g, e0, _, _⟩ := DataW.trod_int Tryz.underlying3 g0
        obtain ⟨k, e1, _, _⟩ := DataW.trod_int Tryz.underlying3 k0
        obtain ⟨l, e2, _, _⟩ := DataW.trod_int Tryz.underlying3 k1
        obtain ⟨s, e3, _, _⟩ := DataW.trod_int Tryz.underlying3 k2
        obtain ⟨t, e4, _, _⟩ := DataW.trod_int Tryz.underlying3 k3
        obtain ⟨nx, e7, _, _⟩ := DataW.trod_int Tryz.underlying3 g4
        obtain ⟨rs, hr1, hr2, hr3⟩ := open_runs g2
        obtain ⟨es, he1, he3, he2⟩ := sopen_ents g3
        simp only [List.cons.injEq, and_true] at e0 e1 e2 e3 e4 e7
        subst e0
        subst e1
        subst e2
        subst e3
        subst e4
        subst e7
        obtain ⟨rp, rc, rfl, _, _⟩ := hr1.open
        obtain ⟨ep, ec, rfl, _, _⟩ := he1.open
        exact ⟨⟨⟨g, k, l, s, t, rs, es, nx⟩, rp, rs.length, rc, ep, es.length, ec⟩, rfl, hr1, hr2, he1, he3, _, _, _, _, _, (Prod.mk.inj hxy).1, hr3, he2⟩
theorem sgood_of_read {H : Type} {w : World} {x : Rw} {d : DataW H} (h : SInoRead w x d) (hwt : ∀ n ∈ d.weights Tryz.prog 65, n ≤ reachBytes) : GoodW w x := by
  obtain ⟨h1, h2, h3, -, y0, y1, y2, y3, y4, hd, l2, l3⟩ := h
  have hrb := reach_le
  subst hd
  refine ⟨h1, h3, h2, ?_, ?_⟩
  · rcases l2 with l2 | ⟨es, sp, rfl, l2⟩
    · omega
    · have := hwt ((es.length + sp.length) * Tryz.prog.bytesOf 132) (by
        simp only [DataW.weights, Tryz.underlying65]
        refine DataW.weights_mem_each (j := 2) (t := 62) (d := .slice es sp) rfl rfl _ ?_
        simp [DataW.weights, Tryz.underlying62])
      rw [show Tryz.prog.bytesOf 132 = 24 from by kernel_rfl] at this
      omega
  · rcases l3 with l3 | ⟨es, sp, rfl, l3⟩
    · omega
    · have := hwt ((es.length + sp.length) * Tryz.prog.bytesOf 69) (by
        simp only [DataW.weights, Tryz.underlying65]
        refine DataW.weights_mem_each (j := 3) (t := 63) (d := .slice es sp) rfl rfl _ ?_
        simp [DataW.weights, Tryz.underlying63])
      rw [show Tryz.prog.bytesOf 69 = 40 from by kernel_rfl] at this
      omega
theorem sopen_tab {H : Type} {enc : TypeId × Value → H} {w : World} {v : Value} {d : DataW H} {p : List MemPlace} (hv : ∃ a len cap, v = .slice a len cap) (h : DataW.Trod enc Tryz.prog w 0 (fun _ => true) true 22 v d p) (hwt : ∀ n ∈ d.weights Tryz.prog 22, n ≤ reachBytes) : ∃ L, TabW w v L ∧ Sp.okN L := by
  obtain ⟨a, len, cap, rfl⟩ := hv
  obtain ⟨fuel, hf⟩ := h
  obtain ⟨L, h1, h2⟩ := open_row EI Tryz.underlying22 (by kernel_rfl) (by decide) (Q := fun x d => SInoRead w x d) (fun n cs d pl hl h => sopen_ino hl h) (by simpa [Value.cells] using hf)
  refine ⟨L, ⟨h1, fun x hx => ?_⟩, ?_⟩
  · rcases h2 with ⟨_, rfl⟩ | ⟨es, sp, hd, _, hq⟩
    · cases hx
    · obtain ⟨i, hi⟩ := List.mem_iff_getElem?.1 hx
      obtain ⟨dd, hdd, hr⟩ := hq i x hi
      refine sgood_of_read hr fun n hn => hwt n ?_
      simp only at hd
      rw [hd]
      simp only [DataW.weights, Tryz.underlying22, List.mem_cons, List.mem_append]
      right
      left
      exact weights_mem_all (List.mem_of_getElem? hdd) hn
  · intro x hx
    rcases h2 with ⟨_, rfl⟩ | ⟨es, sp, hd, _, hq⟩
    · cases hx
    · obtain ⟨i, hi⟩ := List.mem_iff_getElem?.1 hx
      obtain ⟨dd, hdd, hr⟩ := hq i x hi
      exact hr.2.2.2.1
end Go.Proofs.YtacghcoikekfeaaGreat
/- Law -/
namespace Go.Proofs.YtacghcoikekfeaaGreat
set_option maxRecDepth 100000
namespace Law
open Go.ChangeShapes Go.WideShapes Go.ChangeAt Go.RowKit

theorem below_trodAll {H : Type} {enc : TypeId × Value → H} {P : Program} {W W' : World} (hl : laidOutB P = true) (hb : Below W.heap.size W W') :
    ∀ (ts : List TypeId) (vs : List Value) (ds : List (DataW H)) (p : List MemPlace), (∀ t ∈ ts, P.readableRec t = true ∧ t < P.types.size) → (∀ x ∈ p, x.block < W.heap.size) →
      DataW.TrodAll enc P W 0 (fun _ => true) true ts vs ds p → DataW.TrodAll enc P W' 0 (fun b => decide (b < W.heap.size)) true ts vs ds p
  | [], [], [], _, _, _, h => h
  | t :: ts, v :: vs, d :: ds, p, hts, hlt, h => by
    obtain ⟨p0, q, h0, hq, rfl⟩ := h
    have ht := hts t (by simp)
    exact ⟨p0, q, Below.trod hl ht.1 ht.2 h0 hb (fun x hx => hlt x (by simp [hx])), below_trodAll hl hb ts vs ds q (fun u hu => hts u (by simp [hu])) (fun x hx => hlt x (by simp [hx])) hq, rfl⟩

theorem post {H : Type} {enc : TypeId × Value → H} {P : Program} {f : Func} {s : ChangeSpec} {tb : TypeId} {W W' : World} {args : Array Value} {ds gs : List (DataW H)} {before : List MemPlace}
    (hl : laidOutB P = true) (hts : f.params.toList.all (fun t => P.readableRec t && decide (t < P.types.size)) = true) (hrt : f.resultTypes = #[tb]) (hub : P.underlying tb = some .bool)
    (hW : DataW.Whole enc P f.params.toList s.vars false W args.toList ds gs before) (hv : s.vars = [])
    (hspec : s.fn H (ds ++ gs) = { results := [.lit (.bool true)], args := ds }) (hb : Below W.heap.size W W') :
    s.post enc P f false true false false W args (.bool true) W' := by
  have hW' := hW
  obtain ⟨p, q, hA, hV, rfl, hfz, hnd⟩ := hW
  rw [hv] at hV
  obtain ⟨rfl, rfl⟩ := trodVars_none hV
  have hlt : ∀ x ∈ p, x.block < W.heap.size := fun x hx => by simpa using hW'.lt x (by simpa using hx)
  refine ⟨ds, [], p ++ [], [], p, [], hW', ?_, ?_, ?_, hb.frame _, fun h => by cases h⟩
  · rw [hspec, hrt]
    exact trodAll_mk1 (shut_bool hub _)
  · rw [hspec]
    refine below_trodAll hl hb _ _ _ _ (fun t ht => ?_) hlt hA
    have := List.all_eq_true.1 hts t ht
    simpa using this
  · rw [hspec, hv]
    rfl
end Law
end Go.Proofs.YtacghcoikekfeaaGreat
/- Cas -/
namespace Go.Proofs.YtacghcoikekfeaaGreat
open Go.ChangeShapes Go.WideShapes Go.ChangeAt Go.RowKit Go.Deep It
set_option maxRecDepth 100000
abbrev VC (a b c d : Int) (s s2 : ByteArray) (k st : Int) : Value := .agg #[.int .i64 a, .int .i64 b, .int .i64 c, .int .i64 d, .string s, .string s2, .int .i64 k, .int .i64 st]
abbrev BC (a b c d : Int) (s s2 : ByteArray) (k st : Int) : Obj := .cells #[.int .i64 a, .int .i64 b, .int .i64 c, .int .i64 d, .string s, .string s2, .int .i64 k, .int .i64 st] 33
theorem case_of {w : World} {A : Nat} {a b c d k st : Int} {s s2 : ByteArray} (h : w.heap[A]? = some (BC a b c d s s2 k st)) :
    w.cell? ⟨A, 0, none⟩ = some (.int .i64 a) ∧ w.cell? ⟨A, 1, none⟩ = some (.int .i64 b) ∧ w.cell? ⟨A, 2, none⟩ = some (.int .i64 c) ∧ w.cell? ⟨A, 3, none⟩ = some (.int .i64 d) ∧ w.cell? ⟨A, 4, none⟩ = some (.string s) ∧ w.cell? ⟨A, 5, none⟩ = some (.string s2) ∧ w.cell? ⟨A, 6, none⟩ = some (.int .i64 k) ∧ w.cell? ⟨A, 7, none⟩ = some (.int .i64 st) := by
  refine ⟨?_, ?_, ?_, ?_, ?_, ?_, ?_, ?_⟩ <;> simp [World.cell?, h]
theorem open_case {H : Type} {enc : TypeId × Value → H} {w : World} {r : Reach} {b0 : Nat} {v : Value} {d : DataW H} {p : List MemPlace} (hv : Value.okWide Tryz.prog w r b0 33 v) (h : DataW.Trod enc Tryz.prog w 0 (fun _ => true) true 33 v d p) : ∃ (a b c e : Int) (s s2 : ByteArray) (k st : Int), v = VC a b c e s s2 k st ∧ s.size ≤ maxLen ∧ s2.size ≤ maxLen := by
  obtain ⟨cs, rfl, hsz⟩ := okWide_struct Tryz.underlying33 hv
  obtain ⟨fuel, hf⟩ := h
  have h8 : cs.toList.length = 8 := by rw [Array.length_toList, hsz]; kernel_rfl
  have hf' : DataW.trod enc Tryz.prog w 0 (fun _ => true) true fuel 33 cs.toList = some (d, p) := by simpa [Value.cells] using hf
  obtain ⟨xs, m, _, hxy, _, hxl, hg⟩ := DataW.trod_struct Tryz.underlying33 hf'
  obtain ⟨cl⟩ := cs
  simp only at h8 hg
  match cl, h8 with
  | [c0, c1, c2, c3, c4, c5, c6, c7], _ =>
    have g0 := hg 0 _ rfl
    have g1 := hg 1 _ rfl
    have g2 := hg 2 _ rfl
    have g3 := hg 3 _ rfl
    have g4 := hg 4 _ rfl
    have g5 := hg 5 _ rfl
    have hx6 : xs.length = 6 := by rw [hxl]; rfl
    match xs, hx6 with
    | [y0, y1, y2, y3, y4, y5], _ =>
      simp only [List.getElem_toArray, List.getElem_cons_zero, List.getElem_cons_succ] at g0 g1 g2 g3 g4 g5
      simp only [show Tryz.prog.cellsOf 31 = 2 from by kernel_rfl, show Tryz.prog.cellsOf 9 = 1 from by kernel_rfl, show Tryz.prog.cellsOf 3 = 1 from by kernel_rfl] at g0 g1 g2 g3 g4 g5
      simp at g0 g1 g2 g3 g4 g5
      obtain ⟨z0, z1, m0, _, _, k0, k1⟩ := trod_struct2 Tryz.underlying31 g0
      obtain ⟨z2, z3, m1, _, _, k2, k3⟩ := trod_struct2 Tryz.underlying31 g1
      simp only [show Tryz.prog.cellsOf 3 = 1 from by kernel_rfl] at k0 k1 k2 k3
      simp at k0 k1 k2 k3
      obtain ⟨a, e0, _, _⟩ := DataW.trod_int Tryz.underlying3 k0
      obtain ⟨b, e1, _, _⟩ := DataW.trod_int Tryz.underlying3 k1
      obtain ⟨c, e2, _, _⟩ := DataW.trod_int Tryz.underlying3 k2
      obtain ⟨e, e3, _, _⟩ := DataW.trod_int Tryz.underlying3 k3
      obtain ⟨s, e4, _, hs4⟩ := DataW.trod_string Tryz.underlying9 g2
      obtain ⟨s2, e5, _, hs5⟩ := DataW.trod_string Tryz.underlying9 g3
      obtain ⟨k, e6, _, _⟩ := DataW.trod_int Tryz.underlying3 g4
      obtain ⟨st, e7, _, _⟩ := DataW.trod_int Tryz.underlying3 g5
      simp only [List.cons.injEq, and_true] at e0 e1 e2 e3 e4 e5 e6 e7
      subst e0 e1 e2 e3 e4 e5 e6 e7
      exact ⟨a, b, c, e, s, s2, k, st, rfl, hs4, hs5⟩
theorem hand_same (a b : Int) (w : World) : (binOp .eql 31 (.agg #[.int .i64 a, .int .i64 b]) (.agg #[.int .i64 a, .int .i64 b])).run Tryz.prog w = .ok (.bool true) w := by
  go_simp
end Go.Proofs.YtacghcoikekfeaaGreat
