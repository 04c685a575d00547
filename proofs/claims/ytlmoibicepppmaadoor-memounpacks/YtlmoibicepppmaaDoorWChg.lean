/-
  The memo of a number that every statement asks; what the statements share.
-/
import Derived.Test.YtlmoibicepppmaaDoorWUnpk
import Derived.Test.YtlmoibicepppmaaDoorWSame
import Derived.Test.YtlmoibicepppmaaDoorWOpen
namespace Go.Proofs.YtlmoibicepppmaaDoor
open Go.ChangeShapes Go.WideShapes Go.ChangeAt Go.RowKit Go.Deep Me
set_option maxRecDepth 100000
def chg : Mm := ⟨5, 2, 0, 0, 0, 0, 0, 0, [], [], 0, 0, 0, 0, ⟨#[]⟩⟩
theorem chg_right : right chg = true := by decide
theorem chg_snz : snz ⟨#[]⟩ = false := by unfold snz; rw [ByteArray.toList_eq]; rfl
theorem chg_fields : fields chg = [(1, Pl.numOut 5 1), (2, Pl.numOut 2 6)] := by
  unfold fields g6 g5 g4 g3 g2 g1
  rw [show snz chg.d = false from chg_snz]
  rfl
theorem chg_text : text chg = ⟨#[1, 0, 1, 5, 2, 0, 6, 0, 0, 0, 0, 0, 2]⟩ := by
  unfold text
  rw [chg_fields]
  decide +kernel
theorem chg_packed : (packed chg).size = 17 ∧ (packed chg).extract 0 13 = ⟨#[1, 0, 1, 5, 2, 0, 6, 0, 0, 0, 0, 0, 2]⟩ := by
  unfold packed
  refine ⟨by rw [Po.Pl.guardOf_size, chg_text]; rfl, ?_⟩
  unfold Po.Pl.guardOf
  rw [extract_left _ _ 13 (by rw [chg_text]; rfl), chg_text]
theorem chg_out : packOut chg = packed chg ∧ packErr chg = 0 := by
  have h := chg_packed.1
  unfold packOut packErr
  rw [if_pos chg_right, if_pos chg_right, if_neg (by omega), if_neg (by omega)]
  exact ⟨rfl, rfl⟩
set_option maxRecDepth 100000 in
set_option maxRecDepth 100000 in
set_option maxHeartbeats 2000000 in
theorem change_any (w : World) (ht : Po.Tab w) : Calls Tryd.prog 7 #[] w fun e w' => e = .returned (.bool true) ∧ Below w.heap.size w w' := by
  have HT : Hid (Po.Tab w) := ht
  obtain ⟨p, hp⟩ : ∃ p, packed chg = p := ⟨_, rfl⟩
  have HC : Hid (∀ x : World, Po.Tab x → Calls Tryd.prog 8 #[.agg #[.int .i64 5, .int .i64 2, .int .i64 0, .int .i64 0, .int .i64 0, .int .i64 0, .int .i64 0, .int .i64 0, .slice none 0 0, .slice none 0 0, .int .i64 0, .int .i64 0, .int .i64 0, .int .i64 0, .string ⟨#[]⟩]] x fun e w' => e = .returned (.tuple #[.string p, .int .i64 0]) ∧ Below x.heap.size x w') := fun x hx => by
    have := mPack_any chg NS NS x ⟨.inl ⟨_, _, rfl, rfl⟩, .inl ⟨_, _, rfl, rfl⟩⟩ hx
    rw [chg_out.1, chg_out.2, hp] at this
    exact this
  have HU : Hid (∀ x : World, Po.Tab x → Calls Tryd.prog 13 #[.string p] x fun e w' => (∃ p1 n1 c1 p2 n2 c2, e = .returned (.tuple #[VM chg (.slice p1 n1 c1) (.slice p2 n2 c2), .int .i64 0])) ∧ Below x.heap.size x w') := fun x hx => by
    have hu := unp_packed chg_right (by have := chg_packed.1; omega)
    have := munpack_any p x hx
    rw [← hp, hu.1, hu.2, hp] at this
    refine this.mono ?_
    rintro e w' ⟨⟨u, z, rfl, hm⟩, hb⟩
    obtain ⟨p1, c1, rfl, -, -⟩ := hm.lives.open
    obtain ⟨p2, c2, rfl, -, -⟩ := hm.items.open
    exact ⟨⟨_, _, _, _, _, _, rfl⟩, hb⟩
  have hs := chg_packed.1
  have hx := chg_packed.2
  rw [hp] at hs hx
  have hs' : ((p.size : Int) == 17) = true := by rw [hs]; rfl
  clear hp ht
  go_enter Tryd.func7, Tryd.ntmps7
  go_wp2_with fail
  refine (HC.out _ HT.out).mono ?_
  rintro e w1 ⟨rfl, hb1⟩
  have HB1 : Hid (Below w.heap.size w w1) := hb1
  clear hb1
  go_wp2_with fail
  refine (HU.out _ (tab_up HT.out HB1.out)).mono ?_
  rintro e w2 ⟨⟨p1, n1, c1, p2, n2, c2, rfl⟩, hb2⟩
  have HB2 : Hid (Below w.heap.size w (w2.alloc (BM chg (.slice p1 n1 c1) (.slice p2 n2 c2)))) := bup (bup HB1.out hb2) (below_alloc _ _)
  have hbx := heap_alloc_new w2 (BM chg (.slice p1 n1 c1) (.slice p2 n2 c2))
  have d0 : (w2.alloc (BM chg (.slice p1 n1 c1) (.slice p2 n2 c2))).cell? ⟨w2.heap.size, 0, none⟩ = some (.int .i64 5) := (mm_of hbx).1
  have d1 : (w2.alloc (BM chg (.slice p1 n1 c1) (.slice p2 n2 c2))).cell? ⟨w2.heap.size, 1, none⟩ = some (.int .i64 2) := (mm_of hbx).2.1
  have k0 : chg.k = 5 := rfl
  have k1 : chg.v = 2 := rfl
  clear hb2 hbx
  go_wp2
  go_ret
  exact ⟨rfl, HB2.out⟩
end Go.Proofs.YtlmoibicepppmaaDoor
