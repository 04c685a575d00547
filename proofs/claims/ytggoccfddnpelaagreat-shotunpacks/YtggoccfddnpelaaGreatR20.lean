/- RUnp, as one. -/
import Derived.Deep.AppendLies
import Derived.Deep.RegionLaw
import Derived.Test.YtggoccfddnpelaaGreatR19
namespace Go.Proofs.YtggoccfddnpelaaGreat.Ks.Rs
open Go.ChangeShapes Go.WideShapes Go.ChangeAt Go.RowKit Go.Deep
set_option maxRecDepth 100000
open Go.Proofs.YtggoccfddnpelaaGreat.Ks.Ak
theorem number_s (s:ByteArray) (w:World) (hs:s.size<=maxLen):Calls Tryz.prog 131 #[.string s] w fun e w'=>e = .returned (.int .i64 (Pl.numVal s))/\w' = w:=by
  have HS:Hid (s.size<=maxLen):=hs
  clear hs
  go_enter Tryz.func131,Tryz.ntmps131
  go_wp2_with fail
  refine (number_any s _ HS.out).mono ?_
  rintro e w1 ⟨rfl,rfl⟩
  go_wp2
  go_ret
  exact ⟨rfl,rfl⟩
set_option maxHeartbeats 1000000 in
theorem handle_any (S:ByteArray) (w:World):Calls Tryz.prog 133 #[.string S] w fun e w'=>e = .returned (VH (hno S) (hgen S))/\Below w.heap.size w w':=by
  by_cases h7:S.size = 7
  · have HE : Hid ((S.extract 0 1).size ≤ maxLen ∧ (S.extract 1 7).size ≤ maxLen) := ⟨by rw [ByteArray.size_extract]; unfold maxLen; omega, by rw [ByteArray.size_extract]; unfold maxLen; omega⟩
    have HU:Hid (hno S = Pl.numVal (S.extract 0 1)/\hgen S = Pl.numVal (S.extract 1 7)):=⟨by unfold hno;rw [if_pos h7],by unfold hgen;rw [if_pos h7]⟩
    go_enter Tryz.func133,Tryz.ntmps133
    go_wp2
    go_region_held3 (fun _=>True) (trivial) (first
      | (go_at_call_of 131 (Value.string (S.extract 0 1));refine (number_s _ _ HE.out.1).mono ?_;rintro e w1 ⟨rfl,rfl⟩)
      | (go_at_call_of 131 (Value.string (S.extract 1 7));refine (number_s _ _ HE.out.2).mono ?_;rintro e w1 ⟨rfl,rfl⟩))
    all_goals
      generalize Pl.numVal (S.extract 0 1) = k at HU ⊢
      generalize Pl.numVal (S.extract 1 7) = l at HU ⊢
      go_wp2
      refine bodyPost_ret (v:=VH k l) (by simp [results,Tryz.results133,go_sem]) rfl ⟨?_,?_⟩
      · rw [HU.out.1,HU.out.2]
      · first | exact ((Below.refl _ _).alloc (Nat.le_refl _) _).drew | exact ((Below.refl _ _).drew).alloc (Nat.le_refl _) _
  · have H : Hid (hno S = 0 ∧ hgen S = 0) := ⟨by unfold hno; rw [if_neg h7], by unfold hgen; rw [if_neg h7]⟩
    have h7':((S.size:Int) != 7) = true:=by simp;omega
    clear h7
    rw [H.out.1,H.out.2]
    go_enter Tryz.func133,Tryz.ntmps133
    go_wp2
    exact bodyPost_ret (v:=VH 0 0) (by simp [results,Tryz.results133,go_sem]) rfl ⟨rfl,(Below.refl _ _).alloc (Nat.le_refl _) _⟩
theorem four_of' {w:World} {b:Nat} {k l s t:Int} (h:w.heap[b]? = some (BA k l s t)):w.cell? ⟨b,0,none⟩ = some (.int .i64 k)/\w.cell? ⟨b,1,none⟩ = some (.int .i64 l)/\w.cell? ⟨b,2,none⟩ = some (.int .i64 s)/\w.cell? ⟨b,3,none⟩ = some (.int .i64 t):=four_of h
theorem put4_heap {w:World} {b:Nat} {k l s t:Int} (h:w.heap[b]? = some (BA 0 0 0 0)):((((w.setCell ⟨b,0,none⟩ (.int .i64 k)).setCell ⟨b,1,none⟩ (.int .i64 l)).setCell ⟨b,2,none⟩ (.int .i64 s)).setCell ⟨b,3,none⟩ (.int .i64 t)).heap[b]? = some (BA k l s t):=by
  simp [World.setCell,Array.getElem?_modify,h]
set_option maxHeartbeats 1000000 in
theorem attributes_any (S:ByteArray) (w:World):Calls Tryz.prog 135 #[.string S] w fun e w'=>e = .returned (VA (Re.ua S).1 (Re.ua S).2.1 (Re.ua S).2.2.1 (Re.ua S).2.2.2)/\Below w.heap.size w w':=by
  have HU:Hid (At.unpOut S = VA (Re.ua S).1 (Re.ua S).2.1 (Re.ua S).2.2.1 (Re.ua S).2.2.2):=Re.ua_out S
  obtain ⟨k,hk⟩:∃ k,(Re.ua S).1 = k:=⟨_,rfl⟩
  obtain ⟨l,hl⟩:∃ k,(Re.ua S).2.1 = k:=⟨_,rfl⟩
  obtain ⟨s,hs⟩:∃ k,(Re.ua S).2.2.1 = k:=⟨_,rfl⟩
  obtain ⟨t,ht⟩:∃ k,(Re.ua S).2.2.2 = k:=⟨_,rfl⟩
  rw [hk,hl,hs,ht] at HU ⊢
  clear hk hl hs ht
  go_enter Tryz.func135,Tryz.ntmps135
  go_wp2_with fail
  refine (aunpack_any S _).mono ?_
  rintro e w1 ⟨rfl,hb1⟩
  rw [HU.out]
  have HA:Hid (w1.heap[w.heap.size]? = some (BA 0 0 0 0)):=block_step (heap_alloc_new w (BA 0 0 0 0)) hb1
  have HB:Hid (Below w.heap.size w w1):=((Below.refl _ _).alloc (Nat.le_refl _) _).trans (hb1.mono (by simp))
  obtain ⟨c0,c1,c2,c3⟩:=four_of' HA.out
  have la:=block_lt HA.out
  have fa:∀ j,w1.frozen? ⟨w.heap.size,j,none⟩ = false:=fun j=>by simp [World.frozen?,HA.out]
  have hb:=HB.out.size
  clear hb1
  go_wp2
  obtain ⟨e0,e1,e2,e3⟩:=four_of' ((Below.heap_alloc _ (BA k l s t) _ (block_lt (put4_heap (k:=k) (l:=l) (s:=s) (t:=t) HA.out))).trans (put4_heap (k:=k) (l:=l) (s:=s) (t:=t) HA.out))
  refine bodyPost_ret (v:=VA k l s t) (by simp [results,Tryz.results135,go_sem,e0,e1,e2,e3]) rfl ⟨rfl,?_⟩
  first
    | exact ((((HB.out.alloc hb _).setCell (p:=⟨w.heap.size,0,none⟩) (Nat.le_refl _) _).setCell (p:=⟨w.heap.size,1,none⟩) (Nat.le_refl _) _).setCell (p:=⟨w.heap.size,2,none⟩) (Nat.le_refl _) _).setCell (p:=⟨w.heap.size,3,none⟩) (Nat.le_refl _) _
    | exact ((((HB.out.setCell (p:=⟨w.heap.size,0,none⟩) (Nat.le_refl _) _).setCell (p:=⟨w.heap.size,1,none⟩) (Nat.le_refl _) _).setCell (p:=⟨w.heap.size,2,none⟩) (Nat.le_refl _) _).setCell (p:=⟨w.heap.size,3,none⟩) (Nat.le_refl _) _).alloc (by simp [World.setCell];omega) _
set_option maxHeartbeats 2000000 in
theorem entry_any (S:ByteArray) (w:World) (hS:S.size<=65535):Calls Tryz.prog 138 #[.string S] w fun e w'=>e = .returned (VE (Re.entOf S))/\Below w.heap.size w w':=by
  by_cases h13:S.size < 13
  · have H : Hid (Re.entOf S = (⟨#[]⟩, 0, 0, 0)) := by show Re.entOf S = _; unfold Re.entOf; rw [if_pos h13]
    rw [H.out]
    have h13':(S.size:Int) < 13:=by omega
    go_enter Tryz.func138,Tryz.ntmps138
    go_wp2
    exact bodyPost_ret (v:=VE (⟨#[]⟩,0,0,0)) (by simp [results,Tryz.results138,go_sem]) rfl ⟨rfl,(Below.refl _ _).alloc (Nat.le_refl _) _⟩
  · have h13' : ¬ (S.size : Int) < 13 := by omega
    have HE:Hid ((S.extract 0 6).size<=maxLen):=by show (S.extract 0 6).size<=maxLen;rw [ByteArray.size_extract];unfold maxLen;omega
    have HU:Hid (Re.entOf S = (S.extract 13 S.size,Pl.numVal (S.extract 0 6),hno (S.extract 6 13),hgen (S.extract 6 13))):=by show Re.entOf S = _;unfold Re.entOf;rw [if_neg h13]
    have q6:(6:Int)<=(S.size:Int):=by omega
    have q13:(13:Int)<=(S.size:Int):=by omega
    obtain ⟨n1,hn1⟩:∃ y,Pl.numVal (S.extract 0 6) = y:=⟨_,rfl⟩
    obtain ⟨y1,hy1⟩:∃ y,hno (S.extract 6 13) = y:=⟨_,rfl⟩
    obtain ⟨y2,hy2⟩:∃ y,hgen (S.extract 6 13) = y:=⟨_,rfl⟩
    rw [hn1,hy1,hy2] at HU
    have HY:Hid (Pl.numVal (S.extract 0 6) = n1/\hno (S.extract 6 13) = y1/\hgen (S.extract 6 13) = y2):=⟨hn1,hy1,hy2⟩
    obtain ⟨x,hx⟩:∃ x,Re.entOf S = x:=⟨_,rfl⟩
    rw [hx] at HU ⊢
    have HD0:Hid ((w.alloc (BE (⟨#[]⟩,0,0,0))).heap[w.heap.size]? = some (BE (⟨#[]⟩,0,0,0))):=heap_alloc_new w _
    clear hn1 hy1 hy2 h13 hx
    go_enter Tryz.func138,Tryz.ntmps138
    go_wp2
    go_region_held3 (fun _=>True) (trivial) (first
      | (go_at_call 131;refine (number_s _ _ HE.out).mono ?_;rintro e w1 ⟨rfl,rfl⟩;rw [HY.out.1])
      | (go_at_call 133;refine (handle_any _ _).mono ?_;rintro e w2 ⟨rfl,hb2⟩;rw [HY.out.2.1,HY.out.2.2];have HD:Hid (w2.heap[w.heap.size]? = some (BE (⟨#[]⟩,0,0,0))):=(hb2.block _ (by simp)).trans HD0.out;have HB:Hid (Below w.heap.size w w2):=(((Below.refl _ _).alloc (Nat.le_refl _) (BE (⟨#[]⟩,0,0,0))).drew).trans (hb2.mono (by simp));have d0:=(ent_of HD.out).1;have d1:=(ent_of HD.out).2.1;have d2:=(ent_of HD.out).2.2.1;have d3:=(ent_of HD.out).2.2.2;have ld:=block_lt HD.out;have fd:∀ j,w2.frozen? ⟨w.heap.size,j,none⟩ = false:=(fun j=>by simp [World.frozen?,HD.out])))
    all_goals
      go_wp2
      refine bodyPost_ret (v:=VE (S.extract 13 S.size,n1,y1,y2)) (by simp [results,Tryz.results138,go_sem,d0,d1,d2,d3]) rfl ⟨?_,?_⟩
      · rw [HU.out]
      · exact (((HB.out.setCell (p:=⟨w.heap.size,0,none⟩) (Nat.le_refl _) _).setCell (p:=⟨w.heap.size,1,none⟩) (Nat.le_refl _) _).setCell (p:=⟨w.heap.size,2,none⟩) (Nat.le_refl _) _).setCell (p:=⟨w.heap.size,3,none⟩) (Nat.le_refl _) _
end Go.Proofs.YtggoccfddnpelaaGreat.Ks.Rs
