/-
  folder.Find, slices.ContainsFunc: what they answer.
-/
import Derived.Test.YtacghcoikekfeaaGreatFFind
namespace Go.Proofs.YtacghcoikekfeaaGreat
open Go.ChangeShapes Go.WideShapes Go.ChangeAt Go.RowKit Go.Deep
set_option maxRecDepth 100000
namespace Fo
def zeroE : Ent := (⟨#[]⟩, 0, 0, 0)
noncomputable def found (l : List Ent) (next : Int) (s : ByteArray) : Ent := if findErr l next s = 0 then l.getD (plc l next s).toNat zeroE else zeroE
theorem found_no {l : List Ent} {next : Int} {s : ByteArray} {e : Int} (h : findErr l next s = e) (he : e ≠ 0) : found l next s = zeroE := by unfold found; rw [if_neg (by rw [h]; exact he)]
theorem found_hit {l : List Ent} {next : Int} {s : ByteArray} {k : Nat} {x : Ent} (h : findErr l next s = 0) (hp : plc l next s = k) (hx : l[k]? = some x) : found l next s = x := by
  unfold found
  rw [if_pos h, hp, show ((k : Int)).toNat = k from by omega, List.getD, hx]
  rfl
theorem findErr_or (l : List Ent) (next : Int) (s : ByteArray) : (∃ (k : Nat) (x : Ent), findErr l next s = 0 ∧ plc l next s = k ∧ l[k]? = some x ∧ called s x = true ∧ (∀ j y, j < k → l[j]? = some y → called s y = false) ∧ Right l next ∧ Nm.ok s) ∨ (plc l next s = 0 ∧ (findErr l next s = 4 ∨ findErr l next s = 409 ∨ findErr l next s = 402)) := by
  rcases ask_or l next s with ⟨ha, hr, ho⟩ | ⟨ha, -⟩ | ⟨ha, -, -⟩
  · rcases at_or (called s) l with ⟨ht, -⟩ | ⟨k, x, ht, hx, hc, hb⟩
    · have := findErr_miss ha ht
      exact .inr ⟨this.2, .inr (.inr this.1)⟩
    · have := findErr_hit ha ht
      exact .inl ⟨k, x, this.1, this.2, hx, hc, hb, hr, ho⟩
  · have := findErr_ask ha (by decide)
    exact .inr ⟨this.2, .inl this.1⟩
  · have := findErr_ask ha (by decide)
    exact .inr ⟨this.2, .inr (.inl this.1)⟩
end Fo
abbrev BZE : Obj := .cells #[.string ⟨#[]⟩, .int .i64 0, .int .i64 0, .int .i64 0] 69
theorem four_of {w : World} {A : Nat} {x : Ent} (h : w.heap[A]? = some (BE x)) :
    (w.cell? ⟨A, 0, none⟩ = some (.string x.1) ∧ w.cell? ⟨A, 1, none⟩ = some (.int .i64 x.2.1) ∧ w.cell? ⟨A, 2, none⟩ = some (.int .i64 x.2.2.1) ∧ w.cell? ⟨A, 3, none⟩ = some (.int .i64 x.2.2.2)) ∧ ∀ j, w.frozen? ⟨A, j, none⟩ = false := by
  refine ⟨⟨?_, ?_, ?_, ?_⟩, fun j => ?_⟩ <;> simp [World.cell?, World.frozen?, h]
set_option maxHeartbeats 2000000 in
theorem ffind_any (v : Value) (l : List Ent) (next : Int) (s : ByteArray) (w : World) (hv : AtW EE w v l) (hs : ∀ x ∈ l, x.1.size ≤ maxLen) (hn : s.size ≤ maxLen) :
    Calls Tryz.prog 78 #[VD v next, .string s] w fun e w' => e = .returned (.tuple #[VE (Fo.found l next s), .int .i64 (Fo.findErr l next s)]) ∧ Below w.heap.size w w' := by
  obtain ⟨W, hW⟩ : ∃ W, W = (w.alloc (BD v next)).alloc BZE := ⟨_, rfl⟩
  have HB0 : Hid (Below w.heap.size w W) := by show Below w.heap.size w W; rw [hW]; exact ((Below.refl _ w).alloc (Nat.le_refl _) _).alloc (by simp) _
  have HA0 : Hid (W.heap[w.heap.size + 1]? = some BZE) := by
    have := heap_alloc_new (w.alloc (BD v next)) BZE
    rw [← hW] at this
    rwa [show (w.alloc (BD v next)).heap.size = w.heap.size + 1 by simp] at this
  have hws : w.heap.size + 1 < W.heap.size := by rw [hW]; simp
  obtain ⟨a0, a1⟩ : W.cell? ⟨w.heap.size, 0, none⟩ = some v ∧ W.cell? ⟨w.heap.size, 1, none⟩ = some (.int .i64 next) := by
    have := box_cells w v next
    rw [hW]
    exact ⟨(cell_older (by simp) _ _).trans this.1, (cell_older (by simp) _ _).trans this.2⟩
  have HV : Hid (AtW EE W v l) := hv.up HB0.out
  have HS : Hid (∀ x ∈ l, x.1.size ≤ maxLen) := hs
  have HNN : Hid (s.size ≤ maxLen) := hn
  obtain ⟨ao, cap, rfl, hm, hx⟩ := hv.open
  clear hv hs hn
  unfold maxLen at hm
  rcases Fo.findErr_or l next s with ⟨k, x, he, hp, hxk, -, -, -, -⟩ | ⟨hp, he⟩
  · have HE : Hid (Fo.findErr l next s = 0) := he
    have HP : Hid (Fo.plc l next s = k) := hp
    have HF : Hid (Fo.found l next s = x) := Fo.found_hit he hp hxk
    have hk := (List.getElem?_eq_some_iff.1 hxk).1
    obtain ⟨bb, off, rfl, -, hB, hc⟩ := hx k x hxk
    rw [HF.out, HE.out]
    obtain ⟨m, hm'⟩ : ∃ m, l.length = m := ⟨_, rfl⟩
    rw [hm'] at hm hk HV hW a0 ⊢
    have hkI : (k : Int) < (m : Int) := by omega
    have HC : Hid (∀ j u, (EE.cells x)[j]? = some u → w.cell? ⟨bb, off + (k * EE.sz + j), none⟩ = some u) := hc
    clear he hp hx hxk hm' hc
    go_enter Tryz.func78, Tryz.ntmps78
    go_wp2_with fail
    rw [← hW]
    refine (place_any _ l next s _ HV.out HS.out HNN.out).mono ?_
    rintro e w1 ⟨rfl, hb⟩
    rw [HE.out, HP.out]
    have HB1 : Hid (Below w.heap.size w w1) := HB0.out.trans (hb.mono HB0.out.size)
    have HA1 : Hid (w1.heap[w.heap.size + 1]? = some BZE) := (hb.block _ (by omega)).trans HA0.out
    have e0 := cell_next a0 hb (by omega)
    have aa := fun j u hj => (HB1.out.cell (p := ⟨bb, off + (k * EE.sz + j), none⟩) hB).trans (HC.out j u hj)
    have c0 : w1.cell? ⟨bb, off + k * 4, none⟩ = some (.string x.1) := aa 0 _ rfl
    have c1 : w1.cell? ⟨bb, off + k * 4 + 1, none⟩ = some (.int .i64 x.2.1) := aa 1 _ rfl
    have c2 : w1.cell? ⟨bb, off + k * 4 + 2, none⟩ = some (.int .i64 x.2.2.1) := aa 2 _ rfl
    have c3 : w1.cell? ⟨bb, off + k * 4 + 3, none⟩ = some (.int .i64 x.2.2.2) := aa 3 _ rfl
    obtain ⟨⟨z0, z1, z2, z3⟩, zf⟩ := four_of (x := Fo.zeroE) HA1.out
    clear hb aa hW a0 a1
    go_wp2
    (try simp only [Exit.inBlock, Exit.then])
    refine bodyPost_ret (v := .tuple #[VE x, .int .i64 0]) ?_ rfl ⟨rfl, ?_⟩
    · rw [results_cell_tmp rfl]
      go_simp
    · repeat (refine Below.setCell ?_ (by simp) _)
      exact HB1.out
  · have HP : Hid (Fo.plc l next s = 0) := hp
    obtain ⟨fe, hfe⟩ : ∃ fe, Fo.findErr l next s = fe := ⟨_, rfl⟩
    have HE : Hid (Fo.findErr l next s = fe) := hfe
    rw [hfe] at he
    have hne : fe ≠ 0 := by omega
    have HF : Hid (Fo.found l next s = Fo.zeroE) := Fo.found_no hfe hne
    rw [HF.out, HE.out]
    have hne' : (fe == 0) = false := beq_eq_false_iff_ne.2 hne
    clear he hp hx hfe hne
    go_enter Tryz.func78, Tryz.ntmps78
    go_wp2_with fail
    rw [← hW]
    refine (place_any _ l next s _ HV.out HS.out HNN.out).mono ?_
    rintro e w1 ⟨rfl, hb⟩
    rw [HE.out, HP.out]
    have HB1 : Hid (Below w.heap.size w w1) := HB0.out.trans (hb.mono HB0.out.size)
    have HA1 : Hid (w1.heap[w.heap.size + 1]? = some BZE) := (hb.block _ (by omega)).trans HA0.out
    obtain ⟨⟨z0, z1, z2, z3⟩, zf⟩ := four_of (x := Fo.zeroE) HA1.out
    simp only [Fo.zeroE] at z0 z1 z2 z3
    clear hb hW a0 a1
    go_wp2
    (try simp only [Exit.inBlock, Exit.then])
    refine bodyPost_ret (v := .tuple #[.agg #[.string ⟨#[]⟩, .int .i64 0, .int .i64 0, .int .i64 0], .int .i64 fe]) ?_ rfl ⟨rfl, ?_⟩
    · rw [results_cell_tmp rfl]
      go_simp
    · repeat (refine Below.setCell ?_ (by simp) _)
      exact HB1.out
end Go.Proofs.YtacghcoikekfeaaGreat
