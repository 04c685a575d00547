/-
  The texts SGoes, Law, KOpen, SLaw, as one.
-/
import Derived.WalkKit
import Derived.ProofKit
import Derived.Test.YtkdhbjmpjbdobaaGreatDoorRows
import Derived.Lib.SmallJoins
import Derived.ChangeMaps5
import Derived.OpenShut
import Derived.Deep.DeepHandedRow
import Derived.Lib.LaidTab
import Derived.Test.YtkdhbjmpjbdobaaGreatDoorM15
/- SGoes -/
namespace Go.Proofs.YtkdhbjmpjbdobaaGreatDoor
open Go.ChangeShapes Go.WideShapes Go.ChangeAt Go.RowKit Go.Deep
set_option maxRecDepth 100000
open Sk
namespace Sk
def cLook : Cl := ⟨2, 0, 1, 0, 0, ⟨#[]⟩, ⟨#[]⟩, 0, 0, ⟨#[]⟩⟩
def S0 : Sb := s0 3 3
def S1 : Sb := callS cLook S0
def S2 : Sb := tickS 1 S1
def S3 : Sb := folS 1 S2 2
def S4 : Sb := tickS 1 S3
theorem err_look : Ks.Ak.packErr cLook = 0 := by
  unfold Ks.Ak.packErr
  rw [if_pos (Ks.Ak.right_iff.2 (by refine ⟨?_, ⟨?_, ?_⟩, ⟨?_, ?_⟩, ?_, ?_, ?_, ?_, ?_⟩ <;> decide))]
theorem bz_zero : bz S0 = false := by
  unfold bz S0 s0
  rw [ByteArray.toList_eq]
  rfl
theorem call_look : callE cLook S0 = 0 := by
  unfold callE
  rw [err_look, bz_zero]
  rfl
theorem bz_one : bz S1 = true := bz_yes (mk_small (askSz _)).2
theorem is3 : Pn.Is 3 1 := .inr (.inl ⟨rfl, rfl⟩)
end Sk
theorem Out1.keep {A B cu cn D : Nat} {w w' : World} {v : Value} {t : Int} {x : ByteArray} (h : Out1 w v D t x) (ho : Ot A B cu cn w w') (h1 : D ≠ A) (h2 : D ≠ B) (h3 : D ≠ cu) (h4 : D ≠ cn) : Out1 w' v D t x :=
  ⟨h.is, (ho.block D (some_lt h.blk) h1 h2 h3 h4).trans h.blk⟩
theorem Out1.up {D : Nat} {w w' : World} {v : Value} {t : Int} {x : ByteArray} (h : Out1 w v D t x) (hb : Below w.heap.size w w') : Out1 w' v D t x := ⟨h.is, (hb.block D (some_lt h.blk)).trans h.blk⟩
theorem lookc_any (w : World) : Calls Tryz.prog 26 #[] w fun e w' => e = .returned (Ks.VC cLook) ∧ Below w.heap.size w w' := by
  go_enter Tryz.func26, Tryz.ntmps26
  go_wp2
  (try simp only [Exit.inBlock, Exit.then])
  refine bodyPost_ret (v := Ks.VC cLook) (by simp [results, Tryz.results26, go_sem, cLook]) rfl ⟨rfl, below_alloc _ _⟩
set_option maxRecDepth 100000 in
set_option maxHeartbeats 2000000 in
theorem goes_any (w : World) (hT : Po.Tab w) : Calls Tryz.prog 8 #[] w fun e w' => e = .returned (.bool true) ∧ Below w.heap.size w w' := by
  have HT : Hid (Po.Tab w) := hT
  clear hT
  go_enter Tryz.func8, Tryz.ntmps8
  go_wp2_with fail
  refine (snew_ok 3 _ is3 (by omega) (by omega)).mono ?_
  rintro e w1 ⟨A, B, cu, cn, rfl, hs, hlt, hb⟩
  have K1 : Hid (Su w1 A B cu cn S0 ∧ (w.heap.size ≤ A ∧ w.heap.size ≤ B ∧ w.heap.size ≤ cu ∧ w.heap.size ≤ cn) ∧ Below w.heap.size w w1) := ⟨hs, hlt, hb⟩
  clear hs hlt hb
  go_wp2_with fail
  refine (lookc_any _).mono ?_
  rintro e w1' ⟨rfl, hb⟩
  have K1' : Hid (Su w1' A B cu cn S0 ∧ Ot A B cu cn w1 w1') := ⟨K1.out.1.up hb, Ot.of hb⟩
  clear hb
  go_wp2_with fail
  refine (call_ok cLook A B cu cn S0 _ K1'.out.1 (K1'.out.2.tab K1.out.1 (tab_up HT.out K1.out.2.2)) ⟨by decide, by decide⟩ ⟨by decide, by decide⟩ call_look).mono ?_
  rintro e w2 ⟨D1, v1, rfl, ho, hD, hD2, hs, hot⟩
  have hne : D1 ≠ A ∧ D1 ≠ B ∧ D1 ≠ cu ∧ D1 ≠ cn := by
    have := K1'.out.1.lts
    omega
  have N1 : Hid (D1 ≠ A ∧ D1 ≠ B ∧ D1 ≠ cu ∧ D1 ≠ cn) := hne
  have K2 : Hid (Su w2 A B cu cn S1 ∧ Ot A B cu cn w1 w2 ∧ Out1 w2 v1 D1 0 S1.lt) := ⟨hs, K1'.out.2.trans hot, ho⟩
  obtain rfl := ho.is
  clear ho hD hD2 hs hot hne
  go_wp2_with fail
  refine (tick_yes A B cu cn S1 _ K2.out.1 is3 (by decide) (by decide) bz_one).mono ?_
  rintro e w3 ⟨D2, v2, rfl, ho, hD, hD2, hs, hot⟩
  have hne : D2 ≠ A ∧ D2 ≠ B ∧ D2 ≠ cu ∧ D2 ≠ cn := by
    have := K2.out.1.lts
    omega
  have N2 : Hid (D2 ≠ A ∧ D2 ≠ B ∧ D2 ≠ cu ∧ D2 ≠ cn) := hne
  have K3 : Hid (Su w3 A B cu cn S2 ∧ Ot A B cu cn w1 w3 ∧ Out1 w3 (.slice (some ⟨D1, 0, none⟩) 1 1) D1 0 S1.lt ∧ Out1 w3 v2 D2 1 S1.lt) := ⟨hs, K2.out.2.1.trans hot, K2.out.2.2.keep hot N1.out.1 N1.out.2.1 N1.out.2.2.1 N1.out.2.2.2, ho⟩
  obtain rfl := ho.is
  clear ho hD hD2 hs hot hne
  have HT3 : Hid (Po.Tab w3) := K3.out.2.1.tab K1.out.1 (tab_up HT.out K1.out.2.2)
  obtain ⟨p1, p2, p3, p4, p5⟩ := mk_pack (k := 2) (v := 2) (r := 0) (c := 3) (b := ⟨#[]⟩) (by omega) (by omega) (by omega) (by omega) (by decide)
  obtain ⟨tx, htx⟩ : ∃ t, Me.packed (mk 2 2 0 3 ⟨#[]⟩) = t := ⟨_, rfl⟩
  rw [htx] at p1 p3 p4 p5
  have HP : Hid (Me.unpM tx = mk 2 2 0 3 ⟨#[]⟩ ∧ Me.unpE tx = 0) := ⟨p3, p4⟩
  have HC : Hid (Calls Tryz.prog 27 #[VM (mk 2 2 0 3 ⟨#[]⟩) (.slice none 0 0) (.slice none 0 0)] w3 fun e w' => e = .returned (.tuple #[.string tx, .int .i64 0]) ∧ Below w3.heap.size w3 w') := by
    have := mPack_any (mk 2 2 0 3 ⟨#[]⟩) (.slice none 0 0) (.slice none 0 0) w3 ⟨.inl ⟨_, _, rfl, rfl⟩, .inl ⟨_, _, rfl, rfl⟩⟩ HT3.out
    rw [p1, p2] at this
    exact this
  clear p1 p2 p3 p4 p5 htx
  go_wp2_with fail
  refine HC.out.mono ?_
  rintro e w4 ⟨rfl, hb⟩
  have K4 : Hid (Su w4 A B cu cn S2 ∧ Ot A B cu cn w1 w4 ∧ Out1 w4 (.slice (some ⟨D1, 0, none⟩) 1 1) D1 0 S1.lt ∧ Out1 w4 (.slice (some ⟨D2, 0, none⟩) 1 1) D2 1 S1.lt) := ⟨K3.out.1.up hb, K3.out.2.1.trans (Ot.of hb), K3.out.2.2.1.up hb, K3.out.2.2.2.up hb⟩
  clear hb HC
  have hv : folS 1 S2 (Me.unpM tx).v = S3 := by rw [HP.out.1]; rfl
  go_wp2_with fail
  refine (letter_fol 1 tx A B cu cn S2 _ K4.out.1 (K4.out.2.1.tab K1.out.1 (tab_up HT.out K1.out.2.2)) is3 (letB_iff.2 ⟨HP.out.2, ⟨by decide, by decide⟩, by rw [HP.out.1]; rfl, by rw [HP.out.1]; rfl⟩) (by rw [HP.out.1]; rfl)).mono ?_
  rintro e w5 ⟨rfl, hs, hot⟩
  rw [hv] at hs
  have K5 : Hid (Su w5 A B cu cn S3 ∧ Ot A B cu cn w1 w5 ∧ Out1 w5 (.slice (some ⟨D1, 0, none⟩) 1 1) D1 0 S1.lt ∧ Out1 w5 (.slice (some ⟨D2, 0, none⟩) 1 1) D2 1 S1.lt) := ⟨hs, K4.out.2.1.trans hot, K4.out.2.2.1.keep hot N1.out.1 N1.out.2.1 N1.out.2.2.1 N1.out.2.2.2, K4.out.2.2.2.keep hot N2.out.1 N2.out.2.1 N2.out.2.2.1 N2.out.2.2.2⟩
  clear hs hot hv
  go_wp2_with fail
  refine (tick_yes A B cu cn S3 _ K5.out.1 is3 (by decide) (by decide) bz_one).mono ?_
  rintro e w6 ⟨D3, v3, rfl, ho, hD, hD2, hs, hot⟩
  have K6 : Hid (Su w6 A B cu cn S4 ∧ Ot A B cu cn w1 w6 ∧ Out1 w6 (.slice (some ⟨D1, 0, none⟩) 1 1) D1 0 S1.lt ∧ Out1 w6 (.slice (some ⟨D2, 0, none⟩) 1 1) D2 1 S1.lt ∧ Out1 w6 v3 D3 0 S1.lt) := ⟨hs, K5.out.2.1.trans hot, K5.out.2.2.1.keep hot N1.out.1 N1.out.2.1 N1.out.2.2.1 N1.out.2.2.2, K5.out.2.2.2.keep hot N2.out.1 N2.out.2.1 N2.out.2.2.1 N2.out.2.2.2, ho⟩
  obtain rfl := ho.is
  clear ho hD hD2 hs hot
  go_wp2_with fail
  refine (under_any A B cu cn S4 _ K6.out.1).mono ?_
  rintro e w7 ⟨rfl, hb⟩
  have hz : bz S4 = true := bz_one
  rw [hz]
  have hr : S4.r = 1 := rfl
  rw [if_pos rfl, hr]
  have HE : Hid (Below w.heap.size w w7) := (K6.out.2.1.trans (Ot.of hb)).below K1.out.2.2 K1.out.2.2.size K1.out.2.1.1 K1.out.2.1.2.1 K1.out.2.1.2.2.1 K1.out.2.1.2.2.2
  obtain ⟨a0, a1⟩ := (K6.out.2.2.1.up hb).cells
  obtain ⟨b0, b1⟩ := (K6.out.2.2.2.1.up hb).cells
  obtain ⟨d0, d1⟩ := (K6.out.2.2.2.2.up hb).cells
  generalize S1.lt = lt at a1 b1 d1
  have hq : (lt.toList == lt.toList) = true := beq_self_eq_true _
  clear hb hz hr
  go_wp2
  go_quiet (fail)
  go_wp2
  go_ret
  exact ⟨rfl, ⟨HE.out.os, HE.out.tape, HE.out.output, HE.out.size, HE.out.block⟩⟩
end Go.Proofs.YtkdhbjmpjbdobaaGreatDoor
/- Law -/
namespace Go.Proofs.YtkdhbjmpjbdobaaGreatDoor
set_option maxRecDepth 100000
namespace Law
open Go.ChangeShapes Go.WideShapes Go.ChangeAt Go.RowKit

theorem below_trodAll {H : Type} {enc : TypeId × Value → H} {P : Program} {W W' : World} (hl : laidOutB P = true) (hb : Below W.heap.size W W') :
    ∀ (ts : List TypeId) (vs : List Value) (ds : List (DataW H)) (p : List MemPlace), (∀ t ∈ ts, P.readableRec t = true ∧ t < P.types.size) → (∀ x ∈ p, x.block < W.heap.size) →
      DataW.TrodAll enc P W 0 (fun _ => true) true ts vs ds p → DataW.TrodAll enc P W' 0 (fun b => decide (b < W.heap.size)) true ts vs ds p
  | [], [], [], _, _, _, h => h
  | t :: ts, v :: vs, d :: ds, p, hts, hlt, h => by
    obtain ⟨p0, q, h0, hq, rfl⟩ := h
    have ht := hts t (by simp)
    exact ⟨p0, q, Below.trod hl ht.1 ht.2 h0 hb (fun x hx => hlt x (by simp [hx])), below_trodAll hl hb ts vs ds q (fun u hu => hts u (by simp [hu])) (fun x hx => hlt x (by simp [hx])) hq, rfl⟩

theorem post {H : Type} {enc : TypeId × Value → H} {P : Program} {f : Func} {s : ChangeSpec} {tb : TypeId} {W W' : World} {args : Array Value} {ds gs : List (DataW H)} {before : List MemPlace}
    (hl : laidOutB P = true) (hts : f.params.toList.all (fun t => P.readableRec t && decide (t < P.types.size)) = true) (hrt : f.resultTypes = #[tb]) (hub : P.underlying tb = some .bool)
    (hW : DataW.Whole enc P f.params.toList s.vars false W args.toList ds gs before) (hv : s.vars = [])
    (hspec : s.fn H (ds ++ gs) = { results := [.lit (.bool true)], args := ds }) (hb : Below W.heap.size W W') :
    s.post enc P f false true false false W args (.bool true) W' := by
  have hW' := hW
  obtain ⟨p, q, hA, hV, rfl, hfz, hnd⟩ := hW
  rw [hv] at hV
  obtain ⟨rfl, rfl⟩ := trodVars_none hV
  have hlt : ∀ x ∈ p, x.block < W.heap.size := fun x hx => by simpa using hW'.lt x (by simpa using hx)
  refine ⟨ds, [], p ++ [], [], p, [], hW', ?_, ?_, ?_, hb.frame _, fun h => by cases h⟩
  · rw [hspec, hrt]
    exact trodAll_mk1 (shut_bool hub _)
  · rw [hspec]
    refine below_trodAll hl hb _ _ _ _ (fun t ht => ?_) hlt hA
    have := List.all_eq_true.1 hts t ht
    simpa using this
  · rw [hspec, hv]
    rfl
end Law
end Go.Proofs.YtkdhbjmpjbdobaaGreatDoor
/- KOpen -/
namespace Go.Proofs.YtkdhbjmpjbdobaaGreatDoor.Ks
open Go.ChangeShapes Go.WideShapes Go.ChangeAt Go.RowKit Go.Deep
set_option maxRecDepth 100000
open Ak

theorem open_call {H : Type} {enc : TypeId × Value → H} {w : World} {r : Reach} {b0 : Nat} {v : Value} {d : DataW H} {p : List MemPlace} (hv : Value.okWide Tryz.prog w r b0 34 v) (h : DataW.Trod enc Tryz.prog w 0 (fun _ => true) true 34 v d p) : ∃ c : Cl, v = VC c := by
  obtain ⟨cs, rfl, hsz⟩ := okWide_struct Tryz.underlying34 hv
  have hsz' : cs.size = 10 := hsz.trans (by kernel_rfl)
  obtain ⟨fuel, hf⟩ := h
  obtain ⟨xs, m, _, _, _, hxl, hg⟩ := DataW.trod_struct Tryz.underlying34 hf
  have hl : cs.toList.length = 10 := by simpa using hsz'
  obtain ⟨l⟩ := cs
  simp only at hl
  match l, hl with
  | [c0, c1, c2, c3, c4, c5, c6, c7, c8, c9], _ =>
    have hx8 : xs.length = 8 := by rw [hxl]; rfl
    have g0 := hg 0 _ rfl
    have g1 := hg 1 _ rfl
    have g2 := hg 2 _ rfl
    have g3 := hg 3 _ rfl
    have g4 := hg 4 _ rfl
    have g5 := hg 5 _ rfl
    have g6 := hg 6 _ rfl
    have g7 := hg 7 _ rfl
    match xs, hx8 with
    | [y0, y1, y2, y3, y4, y5, y6, y7], _ =>
      simp only [List.getElem_toArray, List.getElem_cons_zero, List.getElem_cons_succ] at g0 g1 g2 g3 g4 g5 g6 g7
      simp only [Value.cells, show Tryz.prog.cellsOf 9 = 1 from by kernel_rfl, show Tryz.prog.cellsOf 3 = 1 from by kernel_rfl, show Tryz.prog.cellsOf 32 = 2 from by kernel_rfl] at g0 g1 g2 g3 g4 g5 g6 g7
      simp at g0 g1 g2 g3 g4 g5 g6 g7
      obtain ⟨z0, z1, m2, _, _, k0, k1⟩ := trod_struct2 Tryz.underlying32 g1
      obtain ⟨u0, u1, m3, _, _, j0, j1⟩ := trod_struct2 Tryz.underlying32 g2
      simp only [show Tryz.prog.cellsOf 3 = 1 from by kernel_rfl] at k0 k1 j0 j1
      simp at k0 k1 j0 j1
      obtain ⟨k, e0, _, _⟩ := DataW.trod_int Tryz.underlying3 g0
      obtain ⟨no, e1, _, _⟩ := DataW.trod_int Tryz.underlying3 k0
      obtain ⟨gen, e2, _, _⟩ := DataW.trod_int Tryz.underlying3 k1
      obtain ⟨no2, e3, _, _⟩ := DataW.trod_int Tryz.underlying3 j0
      obtain ⟨gen2, e4, _, _⟩ := DataW.trod_int Tryz.underlying3 j1
      obtain ⟨nm, e5, _, _⟩ := DataW.trod_string Tryz.underlying9 g3
      obtain ⟨nm2, e6, _, _⟩ := DataW.trod_string Tryz.underlying9 g4
      obtain ⟨pl, e7, _, _⟩ := DataW.trod_int Tryz.underlying3 g5
      obtain ⟨n, e8, _, _⟩ := DataW.trod_int Tryz.underlying3 g6
      obtain ⟨data, e9, _, _⟩ := DataW.trod_string Tryz.underlying9 g7
      simp only [List.cons.injEq, and_true] at e0 e1 e2 e3 e4 e5 e6 e7 e8 e9
      subst e0
      subst e1
      subst e2
      subst e3
      subst e4
      subst e5
      subst e6
      subst e7
      subst e8
      subst e9
      exact ⟨⟨k, no, gen, no2, gen2, nm, nm2, pl, n, data⟩, rfl⟩
end Go.Proofs.YtkdhbjmpjbdobaaGreatDoor.Ks
/- SLaw -/
namespace Go.Proofs.YtkdhbjmpjbdobaaGreatDoor
open Go.ChangeShapes Go.WideShapes Go.ChangeAt Go.RowKit Go.Deep Sk
set_option maxRecDepth 100000
theorem gTab : Tryz.prog.globalNamed "sexton/poly.halves" = some 0 := by kernel_rfl
theorem gTabType : (Tryz.prog.globals[0]?).map (·.type) = some 202 := by kernel_rfl
theorem cellsTab : Tryz.prog.cellsOf 202 = 16 := by kernel_rfl
theorem cellsU32 : Tryz.prog.cellsOf 171 = 1 := by kernel_rfl
theorem table {W : World} (h : laidMetH Tryz.prog Rows.stubNilRow.laid W) : Po.Tab W := by
  have h1 : Lib.TabIs Tryz.prog W "sexton/poly.halves" .u32 Po.Pl.tab := Lib.tabIs_of_head (rest := []) gTab gTabType Tryz.underlying202 Tryz.underlying171 cellsU32 cellsTab h
  intro j hj
  have h2 := h1.cell gTab j (by simpa [Po.Pl.tab] using hj)
  rw [Po.Pl.tab_half j hj] at h2
  exact h2
/-- A world for the witness: the settled one, the table (block 0) holding what its initialiser lays. -/
def fillTab : Obj → Obj
  | .cells _ t frozen => .cells (Po.Pl.tab.map fun z => Value.int .u32 z).toArray t frozen
  | o => o
def laidWorld (P : Program) (os : Os) : World := { World.holding P os ⟨#[], #[], []⟩ with heap := (World.holding P os ⟨#[], #[], []⟩).heap.modify 0 fillTab }
end Go.Proofs.YtkdhbjmpjbdobaaGreatDoor
