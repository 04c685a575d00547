/-
  space.remove, add: what they answer.
-/
import Derived.Test.YtacghcoikekfeaaGreatSp5
namespace Go.Proofs.YtacghcoikekfeaaGreat
open Go.ChangeShapes Go.WideShapes Go.ChangeAt Go.RowKit Go.Deep It
set_option maxRecDepth 100000
set_option maxHeartbeats 2000000 in
theorem sremove_any {S : Nat → Prop} (v : Value) (L : List Rw) (k : Nat) (b st : Int) (s : ByteArray) (x : Rw) (w : World) (hv : TabAt S w v L) (hk : L[k]? = some x) (hn : ∀ e ∈ x.i.ents, e.1.size ≤ maxLen) (hs : s.size ≤ maxLen)
    (hf : Fo.findErr x.i.ents x.i.next s = 0) (he : At.growErr x.i.kind x.i.links x.i.size x.i.stamp (x.i.ents.eraseIdx (Fo.plc x.i.ents x.i.next s).toNat).length st = 0) :
    Calls Tryz.prog 58 #[v, .agg #[.int .i64 k, .int .i64 b], .string s, .int .i64 st] w fun e w' => ∃ u L', e = .returned u ∧ TabAt (fun b => w.heap.size ≤ b) w' u L' ∧
      pl L' = putTab (pl L) k b (Sp.filled x.i (x.i.ents.eraseIdx (Fo.plc x.i.ents x.i.next s).toNat) x.i.next st) ∧ Below w.heap.size w w' := by
  have HV : Hid (TabAt S w v L) := hv
  have HK : Hid (L[k]? = some x) := hk
  obtain ⟨ao, cap, rfl, hm, hx⟩ := hv.open
  obtain ⟨⟨bb, off, rfl, hB, c0, c1, c2, c3, c4, c5, c6, c7⟩, hg⟩ := hx k x hk
  have hkl : (k : Int) < (L.length : Int) := by have := (List.getElem?_eq_some_iff.1 hk).1; omega
  have HG : Hid (Good S w x) := hg
  have HN : Hid ((∀ e ∈ x.i.ents, e.1.size ≤ maxLen) ∧ s.size ≤ maxLen) := ⟨hn, hs⟩
  have HL : Hid ((x.i.ents.eraseIdx (Fo.plc x.i.ents x.i.next s).toNat).length ≤ 3518437208883) := Nat.le_trans (List.length_eraseIdx_le ..) hg.2.2.2.2
  obtain ⟨es, hes⟩ : ∃ es, x.i.ents.eraseIdx (Fo.plc x.i.ents x.i.next s).toNat = es := ⟨_, rfl⟩
  have HES : Hid (x.i.ents.eraseIdx (Fo.plc x.i.ents x.i.next s).toNat = es) := hes
  rw [hes] at HL he ⊢
  have HF : Hid (Fo.findErr x.i.ents x.i.next s = 0) := hf
  have HE : Hid (At.growErr x.i.kind x.i.links x.i.size x.i.stamp es.length st = 0) := he
  unfold maxLen at hm
  obtain ⟨m, hm'⟩ : ∃ m, L.length = m := ⟨_, rfl⟩
  rw [hm'] at HV hm hkl ⊢
  clear hv hx hg he hk hm' hf hn hs hes
  go_enter Tryz.func58, Tryz.ntmps58
  go_wp2_with fail
  refine (dirOf_any x _).mono ?_
  rintro e w1 ⟨rfl, hb1⟩
  have HB1 : Hid (Below w.heap.size w w1) := ((Below.refl _ w).alloc (Nat.le_refl _) (BH k b)).trans (hb1.mono (by simp))
  have HA1 : Hid (w1.heap[w.heap.size]? = some (BH k b)) := (hb1.block _ (by simp)).trans (heap_alloc_new _ _)
  have hs1 : w.heap.size < w1.heap.size := by have := hb1.size; simp at this; omega
  clear hb1 c0 c1 c2 c3 c4 c5 c6 c7
  go_wp2_with fail
  refine (remove_any _ x.i.ents x.i.next s _ (HG.out.up HB1.out).2.1.wide HN.out.1 HN.out.2).mono ?_
  rintro e w2 ⟨u, rfl, hu, hb2⟩
  rw [HF.out, if_pos rfl] at hu ⊢
  rw [HES.out] at hu
  have HB2 : Hid (Below w.heap.size w w2) := HB1.out.trans (hb2.mono HB1.out.size)
  have HA2 : Hid (w2.heap[w.heap.size]? = some (BH k b)) := (hb2.block _ hs1).trans HA1.out
  have hs2 : w.heap.size < w2.heap.size := by have := hb2.size; omega
  obtain ⟨uo, uc, rfl, _, _⟩ := hu.open
  generalize es.length = un at hu ⊢
  have HU : Hid (AtW EE w2 (.slice uo un uc) es) := hu.wide
  obtain ⟨⟨a0, a1⟩, _⟩ := two_of HA2.out
  obtain ⟨e0, e1⟩ := box_cells w2 (.slice uo un uc) x.i.next
  have HB3 : Hid (Below w2.heap.size w2 (w2.alloc (BD (.slice uo un uc) x.i.next))) := (Below.refl _ _).alloc (Nat.le_refl _) _
  have HB4 : Hid (Below w.heap.size w (w2.alloc (BD (.slice uo un uc) x.i.next))) := HB2.out.trans (HB3.out.mono HB2.out.size)
  clear hb2 hu
  go_wp2_with fail
  refine (sput_any _ L k b x.i.next st x uo un uc es _ (HV.out.up HB4.out) HK.out (HU.out.up HB3.out) HL.out HE.out).mono ?_
  rintro e w3 ⟨u, L', rfl, ht, hp, hb3⟩
  have HB5 : Hid (Below w.heap.size w w3) := HB4.out.trans (hb3.mono HB4.out.size)
  have HT : Hid (TabAt (fun b => w.heap.size ≤ b) w3 u L') := ⟨ht.1.imp fun _ h _ => Nat.le_trans HB4.out.size h, fun y hy => (ht.2 y hy).imp fun _ h _ => Nat.le_trans HB4.out.size h⟩
  have HP : Hid (pl L' = putTab (pl L) k b (Sp.filled x.i es x.i.next st)) := hp
  clear hb3 ht hp e0 e1 a0 a1
  go_wp2
  go_ret
  exact ⟨u, L', rfl, HT.out, HP.out, HB5.out⟩
end Go.Proofs.YtacghcoikekfeaaGreat
