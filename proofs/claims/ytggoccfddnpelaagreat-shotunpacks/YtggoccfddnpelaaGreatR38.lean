/- RRefUn, ZRr, as one. -/
import Derived.Deep.CutRange
import Derived.Test.YtggoccfddnpelaaGreatR36
import Derived.Test.YtggoccfddnpelaaGreatR37
namespace Go.Proofs.YtggoccfddnpelaaGreat.Ks.Rs
open Go.ChangeShapes Go.WideShapes Go.ChangeAt Go.RowKit Go.Deep
set_option maxRecDepth 100000
open Go.Proofs.YtggoccfddnpelaaGreat.Ks.Ak Go.Proofs.YtggoccfddnpelaaGreat.Ks.Rs.Ak
theorem below_next {W V w:World} (hb:Below V.heap.size V w) (h:Below W.heap.size W V):Below W.heap.size W w:=h.trans (hb.mono h.size)
theorem frozen_of {w:World} {b:Nat} {r:Rep} {v:Value} (h:w.heap[b]? = some (BR r v)) (j:Nat):w.frozen? ⟨b,j,none⟩ = false:=by simp [World.frozen?,h]
theorem Re.short_wrong {l:List (Int × ByteArray)} {y:ByteArray} (h:((5:Int),y)∈l) (hy:y.size < 13):¬ Re.rightP (Re.replyOf l):=by
  intro hr
  have hm:Re.entOf y∈(Re.replyOf l).ents:=by
    unfold Re.replyOf
    simp only
    refine List.mem_map.2 ⟨y,?_,rfl⟩
    unfold Pl.allOf
    exact List.mem_map.2 ⟨(5,y),List.mem_filter.2 ⟨h,by simp⟩,rfl⟩
  have h1:=(Re.entsP_mem hr.2.2.2.2.1.2 (Int.le_refl 0) _ hm).1.1
  unfold Re.entOf at h1
  rw [if_pos hy] at h1
  simp at h1
theorem meet_new {W x:World} (h:Below W.heap.size W x) (r:Rep):∃ b8:Nat,Value.pointer (some ⟨x.heap.size,0,none⟩) = .pointer (some ⟨b8,0,none⟩)/\Hid ((x.alloc (BR r (.slice none 0 0))).heap[b8]? = some (BR r (.slice none 0 0)))/\Hid (Below W.heap.size W (x.alloc (BR r (.slice none 0 0))))/\W.heap.size<=b8 :=
  ⟨_,rfl,heap_alloc_new x _,h.alloc h.size _,h.size⟩
theorem meet_old {W x:World} {b:Nat} (h:Below W.heap.size W x) (hz:x.heap[b]? = some (BR Re.zero (.slice none 0 0))) (hb:W.heap.size<=b) (r:Rep):∃ b8:Nat,Value.pointer (some ⟨b,0,none⟩) = .pointer (some ⟨b8,0,none⟩)/\Hid ((putR x b r (.slice none 0 0)).heap[b8]? = some (BR r (.slice none 0 0)))/\Hid (Below W.heap.size W (putR x b r (.slice none 0 0)))/\W.heap.size<=b8 :=
  ⟨_,rfl,putR_heap hz r _,putR_below h hb r _,hb⟩
abbrev BF (t:Int) (y:ByteArray):Obj:=.cells #[.int .i64 t,.string y] 45
theorem bf_of {w:World} {b:Nat} {t:Int} {y:ByteArray} (h:w.heap[b]? = some (BF t y)):w.cell? ⟨b,0,none⟩ = some (.int .i64 t)/\w.cell? ⟨b,1,none⟩ = some (.string y):=by
  refine ⟨?_,?_⟩ <;> simp [World.cell?,h]
set_option maxHeartbeats 16000000 in
theorem repRefUnpack_at (s : ByteArray) (w : World) (hs : s.size ≤ 1048576) :
    Calls Tryz.prog 58 #[.string s] w fun e w'=>∃ v,e = .returned (.tuple #[VR (Re.unpR s.data.toList) v,.int .i64 (Re.unpE s.data.toList)])/\At EE (fun b=>w.heap.size<=b) w' v (Re.unpR s.data.toList).ents/\Below w.heap.size w w':=by
  have HS:Hid (s.size<=1048576):=hs
  obtain ⟨l,hl⟩:∃ l,Pl.unpOut s.data.toList = l:=⟨_,rfl⟩
  have HL:Hid (Pl.unpOut s.data.toList = l):=hl
  have HSM:Hid (∀ x∈l,x.2.size<=65535):=by rw [← hl];exact parse_small _ _ _
  have HLN:Hid (l.length<=400000):=by
    have h1:=parse_len s.data.toList.length 1 s.data.toList
    have h2:s.data.toList.length = s.size:=by simp
    rw [← hl]
    show (Pl.unpOut s.data.toList).length<=_
    unfold Pl.unpOut
    omega
  obtain ⟨C,hC⟩:∃ C,Re.unpR s.data.toList = C:=⟨_,rfl⟩
  obtain ⟨E,hE⟩:∃ E,Re.unpE s.data.toList = E:=⟨_,rfl⟩
  have HCE:Hid (Re.unpR s.data.toList = C/\Re.unpE s.data.toList = E):=⟨hC,hE⟩
  rw [hC,hE]
  clear hC hE hl hs
  by_cases h0:Pl.unpErr s.data.toList = 0
  · have H0 : Hid (Pl.unpErr s.data.toList = 0) := h0
    clear h0
    obtain ⟨v1,hv1⟩:∃ v,lastOf l 1 = v:=⟨_,rfl⟩
    obtain ⟨v2,hv2⟩:∃ v,lastOf l 2 = v:=⟨_,rfl⟩
    obtain ⟨v3,hv3⟩:∃ v,lastOf l 3 = v:=⟨_,rfl⟩
    obtain ⟨v4,hv4⟩:∃ v,lastOf l 4 = v:=⟨_,rfl⟩
    obtain ⟨v6,hv6⟩:∃ v,lastOf l 6 = v:=⟨_,rfl⟩
    have HV:Hid (lastOf l 1 = v1/\lastOf l 2 = v2/\lastOf l 3 = v3/\lastOf l 4 = v4/\lastOf l 6 = v6):=⟨hv1,hv2,hv3,hv4,hv6⟩
    have HZ:Hid (v1.size<=maxLen/\v6.size<=maxLen):=by
      have h1:=lastOf_small HSM.out 1
      have h6:=lastOf_small HSM.out 6
      rw [hv1] at h1
      rw [hv6] at h6
      exact ⟨by unfold maxLen;omega,by unfold maxLen;omega⟩
    have HU:Hid (At.unpOut v3 = VA (Re.ua v3).1 (Re.ua v3).2.1 (Re.ua v3).2.2.1 (Re.ua v3).2.2.2):=Re.ua_out v3
    obtain ⟨uk,huk⟩:∃ k,(Re.ua v3).1 = k:=⟨_,rfl⟩
    obtain ⟨ul,hul⟩:∃ k,(Re.ua v3).2.1 = k:=⟨_,rfl⟩
    obtain ⟨us,hus⟩:∃ k,(Re.ua v3).2.2.1 = k:=⟨_,rfl⟩
    obtain ⟨ut,hut⟩:∃ k,(Re.ua v3).2.2.2 = k:=⟨_,rfl⟩
    rw [huk,hul,hus,hut] at HU
    obtain ⟨n1,hn1⟩:∃ k,Pl.numVal v1 = k:=⟨_,rfl⟩
    obtain ⟨n6,hn6⟩:∃ k,Pl.numVal v6 = k:=⟨_,rfl⟩
    obtain ⟨g1,hg1⟩:∃ k,hno v2 = k:=⟨_,rfl⟩
    obtain ⟨g2,hg2⟩:∃ k,hgen v2 = k:=⟨_,rfl⟩
    have HNV:Hid ((Pl.numVal v1 = n1/\Pl.numVal v6 = n6)/\hno v2 = g1/\hgen v2 = g2):=⟨⟨hn1,hn6⟩,hg1,hg2⟩
    have HRE:Hid (∀ A:List (Int × ByteArray),A = l->(⟨n1,g1,g2,uk,ul,us,ut,v4,(Pl.allOf A 5).map Re.entOf,n6⟩:Rep) = Re.replyOf l):=by
      intro A hA
      subst hA
      unfold Re.replyOf
      rw [hv1,hv2,hv3,hv4,hv6,huk,hul,hus,hut,hn1,hn6,hg1,hg2]
    clear hv1 hv2 hv3 hv4 hv6 huk hul hus hut hn1 hn6 hg1 hg2
    go_enter Tryz.func58,Tryz.ntmps58
    go_wp2_with fail
    refine (refUnpack_any s _ HS.out).mono ?_
    rintro e w1 ⟨fv,rfl,hown,hb1⟩
    rw [H0.out]
    rw [HL.out] at hown
    have hF:=FieldsAt.of_own hown
    obtain ⟨ao,cap,rfl,hm,-⟩:=hF.openr
    obtain ⟨n,hn⟩:∃ n,l.length = n:=⟨_,rfl⟩
    have hn4:n<=400000:=by rw [← hn];exact HLN.out
    rw [hn] at hF ⊢
    have HN:Hid (l.length = n):=hn
    have HF1:Hid (FieldsAt w1.heap.size w1 (.slice ao n cap) l):=hF
    have HB1:Hid (Below w.heap.size w w1):=((Below.refl _ _).alloc (Nat.le_refl _) _).trans (hb1.mono (by simp))
    have HR1:Hid (w1.heap[w.heap.size]? = some (BR Re.zero (.slice none 0 0))):=block_step (heap_alloc_new w (BR Re.zero (.slice none 0 0))) hb1
    clear hown hb1 hF hn hm
    go_wp2_with fail
    refine (value_any _ l 3 _ HF1.out).mono ?_
    rintro e w2 ⟨rfl,hb2⟩
    rw [HV.out.2.2.1]
    have HB2:Hid (Below w.heap.size w w2):=HB1.out.trans (hb2.mono HB1.out.size)
    have HR2:Hid (w2.heap[w.heap.size]? = some (BR Re.zero (.slice none 0 0))):=block_step HR1.out hb2
    have HF2:Hid (FieldsAt w2.heap.size w2 (.slice ao n cap) l):=(HF1.out.below hb2 (Nat.le_refl _)).mono hb2.size
    clear hb2
    go_wp2_with fail
    refine (arefUnpack_any v3 _).mono ?_
    rintro e w3 ⟨rfl,hb3⟩
    rw [HU.out]
    have HB3:Hid (Below w.heap.size w w3):=HB2.out.trans (hb3.mono HB2.out.size)
    have HR3:Hid (w3.heap[w.heap.size]? = some (BR Re.zero (.slice none 0 0))):=block_step HR2.out hb3
    have HF3:Hid (FieldsAt w3.heap.size w3 (.slice ao n cap) l):=(HF2.out.below hb3 (Nat.le_refl _)).mono hb3.size
    clear hb3 HB2 HR2 HF2 HB1 HR1 HF1
    go_upto_region 5 with fail
    obtain ⟨W4,hW4⟩:∃ W4,W4 = w3.alloc (BA uk ul us ut):=⟨_,rfl⟩
    have bb4:Below w3.heap.size w3 W4:=by rw [hW4];exact (Below.refl _ _).alloc (Nat.le_refl _) _
    have HB4:Hid (Below w.heap.size w W4):=HB3.out.trans (bb4.mono HB3.out.size)
    have HR4:Hid (W4.heap[w.heap.size]? = some (BR Re.zero (.slice none 0 0))):=block_step HR3.out bb4
    have HF4:Hid (FieldsAt W4.heap.size W4 (.slice ao n cap) l):=(HF3.out.below bb4 (Nat.le_refl _)).mono bb4.size
    have HFV:Hid (∀ V,Below W4.heap.size W4 V->FieldsAt V.heap.size V (.slice ao n cap) l):=fun V h=>(HF4.out.below h (Nat.le_refl _)).mono h.size
    have HAD:Hid (∀ V,Below W4.heap.size W4 V->V.cell? ⟨w3.heap.size,0,none⟩ = some (.int .i64 uk)/\V.cell? ⟨w3.heap.size,1,none⟩ = some (.int .i64 ul)/\V.cell? ⟨w3.heap.size,2,none⟩ = some (.int .i64 us)/\V.cell? ⟨w3.heap.size,3,none⟩ = some (.int .i64 ut)):=by
      intro V h
      have h1:W4.heap[w3.heap.size]? = some (BA uk ul us ut):=by rw [hW4];exact heap_alloc_new w3 _
      exact four_of' (block_step h1 h)
    rw [← hW4]
    clear hW4 bb4 HB3 HR3 HF3
    go_cut [8] from 27 to 39 (fun u8 wc=>∃ b8:Nat,u8 = .pointer (some ⟨b8,0,none⟩)/\Hid (wc.heap[b8]? = some (BR ⟨n1,g1,g2,uk,ul,us,ut,v4,[],n6⟩ (.slice none 0 0)))/\Hid (Below W4.heap.size W4 wc)/\W4.heap.size<=b8)
    case first =>
      go_region_held3 (fun V=>V.cell? ⟨w3.heap.size,0,none⟩ = some (.int .i64 uk)/\V.cell? ⟨w3.heap.size,1,none⟩ = some (.int .i64 ul)/\V.cell? ⟨w3.heap.size,2,none⟩ = some (.int .i64 us)/\V.cell? ⟨w3.heap.size,3,none⟩ = some (.int .i64 ut)) (first | exact HAD.out _ (by repeat (first | with_reducible assumption | with_reducible exact Below.refl _ _ | with_reducible refine Below.drew ?_ | with_reducible refine Below.setCell ?_ (by first | with_reducible assumption | exact Nat.le_refl _) _ | with_reducible refine Below.alloc ?_ (by first | with_reducible assumption | exact Nat.le_refl _) _))) (first
        | (go_at_call_of 81 (Value.int .i64 1);refine (value_any _ l 1 _ (HFV.out _ (by repeat (first | with_reducible assumption | with_reducible exact Below.refl _ _ | with_reducible refine Below.drew ?_ | with_reducible refine Below.setCell ?_ (by first | with_reducible assumption | exact Nat.le_refl _) _ | with_reducible refine Below.alloc ?_ (by first | with_reducible assumption | exact Nat.le_refl _) _)))).mono ?_;rintro e x1 ⟨rfl,hb1⟩;rw [HV.out.1];have hq1:Below W4.heap.size W4 x1:=below_next hb1 (by repeat (first | with_reducible assumption | with_reducible exact Below.refl _ _ | with_reducible refine Below.drew ?_ | with_reducible refine Below.setCell ?_ (by first | with_reducible assumption | exact Nat.le_refl _) _ | with_reducible refine Below.alloc ?_ (by first | with_reducible assumption | exact Nat.le_refl _) _));have hs1:W4.heap.size<=x1.heap.size:=hq1.size;(first | (have hz:=block_step (heap_alloc_new _ (BR Re.zero (.slice none 0 0))) hb1) | (have hz:=block_step (w:=(W4.alloc (BR Re.zero (.slice none 0 0))).drew) (heap_alloc_new W4 (BR Re.zero (.slice none 0 0))) hb1) | (have hz:=block_step hz hb1) | skip);clear hb1)
        | (go_at_call_of 82 (Value.string v1);refine (rnumber_s v1 _ HZ.out.1).mono ?_;rintro e w' ⟨rfl,rfl⟩;rw [HNV.out.1.1])
        | (go_at_call_of 81 (Value.int .i64 2);refine (value_any _ l 2 _ (HFV.out _ (by repeat (first | with_reducible assumption | with_reducible exact Below.refl _ _ | with_reducible refine Below.drew ?_ | with_reducible refine Below.setCell ?_ (by first | with_reducible assumption | exact Nat.le_refl _) _ | with_reducible refine Below.alloc ?_ (by first | with_reducible assumption | exact Nat.le_refl _) _)))).mono ?_;rintro e x2 ⟨rfl,hb2⟩;rw [HV.out.2.1];have hq2:Below W4.heap.size W4 x2:=below_next hb2 (by repeat (first | with_reducible assumption | with_reducible exact Below.refl _ _ | with_reducible refine Below.drew ?_ | with_reducible refine Below.setCell ?_ (by first | with_reducible assumption | exact Nat.le_refl _) _ | with_reducible refine Below.alloc ?_ (by first | with_reducible assumption | exact Nat.le_refl _) _));have hs2:W4.heap.size<=x2.heap.size:=hq2.size;(first | (have hz:=block_step (heap_alloc_new _ (BR Re.zero (.slice none 0 0))) hb2) | (have hz:=block_step (w:=(W4.alloc (BR Re.zero (.slice none 0 0))).drew) (heap_alloc_new W4 (BR Re.zero (.slice none 0 0))) hb2) | (have hz:=block_step hz hb2) | skip);clear hb2)
        | (go_at_call 83;refine (rnamed_any v2 _).mono ?_;rintro e x9 ⟨rfl,hb9⟩;rw [HNV.out.2.1,HNV.out.2.2];have hq9:Below W4.heap.size W4 x9:=below_next hb9 (by repeat (first | with_reducible assumption | with_reducible exact Below.refl _ _ | with_reducible refine Below.drew ?_ | with_reducible refine Below.setCell ?_ (by first | with_reducible assumption | exact Nat.le_refl _) _ | with_reducible refine Below.alloc ?_ (by first | with_reducible assumption | exact Nat.le_refl _) _));have hs9:W4.heap.size<=x9.heap.size:=hq9.size;(first | (have hz:=block_step (heap_alloc_new _ (BR Re.zero (.slice none 0 0))) hb9) | (have hz:=block_step (w:=(W4.alloc (BR Re.zero (.slice none 0 0))).drew) (heap_alloc_new W4 (BR Re.zero (.slice none 0 0))) hb9) | (have hz:=block_step hz hb9) | skip);clear hb9)
        | (go_at_call_of 81 (Value.int .i64 4);refine (value_any _ l 4 _ (HFV.out _ (by repeat (first | with_reducible assumption | with_reducible exact Below.refl _ _ | with_reducible refine Below.drew ?_ | with_reducible refine Below.setCell ?_ (by first | with_reducible assumption | exact Nat.le_refl _) _ | with_reducible refine Below.alloc ?_ (by first | with_reducible assumption | exact Nat.le_refl _) _)))).mono ?_;rintro e x4 ⟨rfl,hb4⟩;rw [HV.out.2.2.2.1];have hq4:Below W4.heap.size W4 x4:=below_next hb4 (by repeat (first | with_reducible assumption | with_reducible exact Below.refl _ _ | with_reducible refine Below.drew ?_ | with_reducible refine Below.setCell ?_ (by first | with_reducible assumption | exact Nat.le_refl _) _ | with_reducible refine Below.alloc ?_ (by first | with_reducible assumption | exact Nat.le_refl _) _));have hs4:W4.heap.size<=x4.heap.size:=hq4.size;(first | (have hz:=block_step (heap_alloc_new _ (BR Re.zero (.slice none 0 0))) hb4) | (have hz:=block_step (w:=(W4.alloc (BR Re.zero (.slice none 0 0))).drew) (heap_alloc_new W4 (BR Re.zero (.slice none 0 0))) hb4) | (have hz:=block_step hz hb4) | skip);clear hb4)
        | (go_at_call_of 81 (Value.int .i64 6);refine (value_any _ l 6 _ (HFV.out _ (by repeat (first | with_reducible assumption | with_reducible exact Below.refl _ _ | with_reducible refine Below.drew ?_ | with_reducible refine Below.setCell ?_ (by first | with_reducible assumption | exact Nat.le_refl _) _ | with_reducible refine Below.alloc ?_ (by first | with_reducible assumption | exact Nat.le_refl _) _)))).mono ?_;rintro e x6 ⟨rfl,hb6⟩;rw [HV.out.2.2.2.2];have hq6:Below W4.heap.size W4 x6:=below_next hb6 (by repeat (first | with_reducible assumption | with_reducible exact Below.refl _ _ | with_reducible refine Below.drew ?_ | with_reducible refine Below.setCell ?_ (by first | with_reducible assumption | exact Nat.le_refl _) _ | with_reducible refine Below.alloc ?_ (by first | with_reducible assumption | exact Nat.le_refl _) _));have hs6:W4.heap.size<=x6.heap.size:=hq6.size;(first | (have hz:=block_step (heap_alloc_new _ (BR Re.zero (.slice none 0 0))) hb6) | (have hz:=block_step (w:=(W4.alloc (BR Re.zero (.slice none 0 0))).drew) (heap_alloc_new W4 (BR Re.zero (.slice none 0 0))) hb6) | (have hz:=block_step hz hb6) | skip);clear hb6;(first | (obtain ⟨z0,z1,z2,z3,z4,z5,z6,z7,z8,z9⟩:=ten_of hz;have zl:=block_lt hz;have zf:=fun j=>frozen_of hz j) | skip))
        | (go_at_call_of 82 (Value.string v6);refine (rnumber_s v6 _ HZ.out.2).mono ?_;rintro e w' ⟨rfl,rfl⟩;rw [HNV.out.1.2]))
      all_goals
        go_wp2
        go_meet
        case rel =>
          first
          | with_reducible exact meet_new hq6 ⟨n1,g1,g2,uk,ul,us,ut,v4,[],n6⟩
          | exact meet_old hq6 hz (by first | with_reducible assumption | exact Nat.le_refl _) ⟨n1,g1,g2,uk,ul,us,ut,v4,[],n6⟩
    case rest =>
      obtain ⟨b8,rfl,HX8,HB8,hb8⟩:=hcut
      have HRS0:Hid (Rs W4.heap.size b8 W4 ⟨n1,g1,g2,uk,ul,us,ut,v4,[],n6⟩ (.slice none 0 0) wc):=⟨HX8.out,World.ownsRow_nil _ _ _ _,HB8.out,hb8,Nat.le_refl _⟩
      have HX:Hid (∀ i,i < n->∃ b off,ao = some ⟨b,off,none⟩/\b < W4.heap.size/\W4.cell? ⟨b,off + i * 2,none⟩ = some (.int .i64 (l.getD i (0,.empty)).1)/\W4.cell? ⟨b,off + i * 2 + 1,none⟩ = some (.string (l.getD i (0,.empty)).2)):=by
        obtain ⟨ao',cap',he,_,hx⟩:=HF4.out.openr
        rw [HN.out] at he hx
        simp only [Value.slice.injEq] at he
        obtain ⟨rfl,_,rfl⟩:=he
        exact hx
      have hRlt:w.heap.size < W4.heap.size:=block_lt HR4.out
      clear HX8 HB8 HFV HAD HF4
      go_wp2_with fail
      go_loopw [42] (fun i wr=>∃ (k:Nat) (v:Value),k<=n/\i = .int .i64 k/\Hid (Rs W4.heap.size b8 W4 ⟨n1,g1,g2,uk,ul,us,ut,v4,(Pl.allOf (l.take k) 5).map Re.entOf,n6⟩ v wr)) (fun i _=>n - (intOf i).toNat)
      case atStart=>exact ⟨0,.slice none 0 0,Nat.zero_le _,rfl,HRS0.out⟩
      case round =>
        obtain ⟨k,v,hk,rfl,HRS⟩:=hrel
        have hsz:W4.heap.size<=wr.heap.size:=HRS.out.below.size
        have HRr:Hid (wr.heap[w.heap.size]? = some (BR Re.zero (.slice none 0 0))):=(HRS.out.below.block _ hRlt).trans HR4.out
        have HBr:Hid (Below w.heap.size w wr):=HB4.out.trans (HRS.out.below.mono HB4.out.size)
        by_cases hlt:k < n
        · obtain ⟨bb, off, rfl, hB, x0, x1⟩ := HX.out k hlt
          rw [← HRS.out.below.cell (p:=⟨bb,off + k * 2,none⟩) hB] at x0
          rw [← HRS.out.below.cell (p:=⟨bb,off + k * 2 + 1,none⟩) hB] at x1
          have hkl:k < l.length:=by rw [HN.out];exact hlt
          have HMEM:Hid (l.getD k (0,.empty)∈l):=by
            have:l.getD k (0,.empty) = l[k]:=by simp [List.getD,hkl]
            rw [this]
            exact List.getElem_mem hkl
          have HHIT:Hid ((l.getD k (0,.empty)).1 = 5->Pl.allOf (l.take (k + 1)) 5 = Pl.allOf (l.take k) 5 ++ [(l.getD k (0,.empty)).2]):=fun h=>Pl.allOf_hit hkl rfl (by simpa using h)
          have HMISS:Hid ((l.getD k (0,.empty)).1≠5->Pl.allOf (l.take (k + 1)) 5 = Pl.allOf (l.take k) 5):=fun h=>Pl.allOf_miss hkl rfl (by simpa using h)
          generalize l.getD k (0,.empty) = f at *
          obtain ⟨t,y⟩:=f
          have hlt':(k:Int) < (n:Int):=by omega
          clear hkl
          by_cases ht:t = 5
          · subst ht
            have HSY:Hid (y.size<=65535):=HSM.out _ HMEM.out
            by_cases hy:y.size < 13
            · have HNO := Re.isRep_no (s := s) (.inr (.inl (by
                have hw:Re.right (Re.replyOf (Pl.unpOut s.data.toList)) = false:=Re.wrong_iff.2 (by rw [HL.out];exact Re.short_wrong HMEM.out hy)
                unfold Re.packErr
                rw [hw]
                decide)))
              have H:Hid (C = Re.zero/\E = 4):=⟨by rw [← HCE.out.1,HNO.1],by rw [← HCE.out.2,HNO.2]⟩
              have hy':(y.size:Int) < 13:=by omega
              have HRa:Hid ((wr.alloc (BF 5 y)).heap[w.heap.size]? = some (BR Re.zero (.slice none 0 0))):=(Below.heap_alloc _ _ _ (block_lt HRr.out)).trans HRr.out
              obtain ⟨d0,d1,d2,d3,d4,d5,d6,d7,d8,d9⟩:=ten_of HRr.out
              have fa:∀ j,wr.frozen? ⟨w.heap.size,j,none⟩ = false:=fun j=>frozen_of HRr.out j
              have hl3:w.heap.size < wr.heap.size:=block_lt HRr.out
              have HBa:Hid (Below w.heap.size w (wr.alloc (BF 5 y))):=HBr.out.alloc HBr.out.size _
              clear HNO hy
              go_wp2
              (try simp only [Exit.inBlock,Exit.then])
              refine bodyPost_ret (v:=.tuple #[VR Re.zero (.slice none 0 0),.int .i64 4]) (by simp [results,Tryz.results58,go_sem,Re.zero,hl3,d0,d1,d2,d3,d4,d5,d6,d7,d8,d9]) rfl ⟨.slice none 0 0,?_,?_,(putR_below HBr.out (Nat.le_refl _) Re.zero (.slice none 0 0)).alloc (putR_below HBr.out (Nat.le_refl _) Re.zero (.slice none 0 0)).size _⟩
              · rw [H.out.1,H.out.2]
              · rw [H.out.1]
                exact At.nil
            · have hy' : ¬ ((y.size : Int) < 13) := by omega
              have hys:13<=y.size:=by omega
              obtain ⟨i0,hi,hz0,hz1,hz2⟩:=info_parts infoE
              obtain ⟨x,hx⟩:∃ x:Ent,(y.extract 13 y.size,Pl.numVal (y.extract 0 6),hno (y.extract 6 13),hgen (y.extract 6 13)) = x:=⟨_,rfl⟩
              obtain ⟨ES,hES⟩:∃ ES,(Pl.allOf (l.take k) 5).map Re.entOf = ES:=⟨_,rfl⟩
              have HNX:Hid ((Pl.allOf (l.take (k + 1)) 5).map Re.entOf = ES ++ [x]):=by
                show _ = _
                rw [HHIT.out rfl,List.map_append,hES,← hx]
                show ES ++ [Re.entOf y] = _
                unfold Re.entOf
                rw [if_neg hy]
              have HX4:Hid (Pl.numVal (y.extract 0 6) = x.2.1/\hno (y.extract 6 13) = x.2.2.1/\hgen (y.extract 6 13) = x.2.2.2):=by rw [← hx];exact ⟨rfl,rfl,rfl⟩
              have HX1:Hid (y.extract 13 y.size = x.1):=by show _ = _;rw [← hx]
              have HEL:Hid (ES.length<=1000000):=by
                rw [← hES]
                show (List.map Re.entOf (Pl.allOf (l.take k) 5)).length<=1000000
                unfold Pl.allOf
                rw [List.length_map,List.length_map]
                have h1:=List.length_filter_le (fun p:Int × ByteArray=>p.1 == 5) (l.take k)
                have h2:(l.take k).length<=l.length:=by rw [List.length_take];omega
                have h3:l.length<=400000:=HLN.out
                exact Nat.le_trans (List.length_filter_le _ _) (by omega)
              have HZY:Hid ((y.extract 0 6).size<=maxLen):=by show (y.extract 0 6).size<=maxLen;rw [ByteArray.size_extract];unfold maxLen;omega
              rw [hES] at HRS
              obtain ⟨ao2,cap2,hv,-,-⟩:=(row_at HRS.out.row).open
              simp only at hv
              subst hv
              obtain ⟨r0,hr0⟩:∃ r0:Rep,(⟨n1,g1,g2,uk,ul,us,ut,v4,ES,n6⟩:Rep) = r0:=⟨_,rfl⟩
              have HRD:Hid (Rs W4.heap.size b8 W4 ⟨n1,g1,g2,uk,ul,us,ut,v4,ES,n6⟩ (.slice ao2 ES.length cap2) (wr.alloc (BF 5 y)).drew):=(HRS.out.step ((Below.refl _ _).alloc (Nat.le_refl _) _)).drew
              have HD1:Hid ((wr.alloc (BF 5 y)).drew.heap[wr.heap.size]? = some (BF 5 y)):=heap_alloc_new wr _
              clear hr0 hx hES hy
              clear r0
              go_wp2
              have hy6:6<=(y.size:Int):=by omega
              have hS0:(wr.alloc (BF 5 y)).drew.cell? ⟨b8,8,none⟩ = some (.slice ao2 ES.length cap2)/\(wr.alloc (BF 5 y)).drew.cell? ⟨wr.heap.size,1,none⟩ = some (.string y):=⟨(ten_of HRD.out.box).2.2.2.2.2.2.2.2.1,(bf_of HD1.out).2⟩
              refine Late.start (fun V=>V.cell? ⟨b8,8,none⟩ = some (.slice ao2 ES.length cap2)/\V.cell? ⟨wr.heap.size,1,none⟩ = some (.string y)) 17 (by kernel_rfl) ?_
              refine Late.take 0 (.pointer (some ⟨b8,8,none⟩)) rfl (by kernel_rfl) (by kernel_rfl) (by kernel_rfl) (by kernel_rfl) rfl (fun V hV=>by obtain ⟨hV1,hV2⟩:=hV;go_simp) hS0 ?_
              refine Late.take 1 (.slice ao2 ES.length cap2) rfl (by kernel_rfl) (by kernel_rfl) (by kernel_rfl) (by kernel_rfl) rfl (fun V hV=>by obtain ⟨hV1,hV2⟩:=hV;go_simp) hS0 ?_
              refine Late.take 2 (.pointer (some ⟨wr.heap.size,1,none⟩)) rfl (by kernel_rfl) (by kernel_rfl) (by kernel_rfl) (by kernel_rfl) rfl (fun V hV=>by obtain ⟨hV1,hV2⟩:=hV;go_simp) hS0 ?_
              refine Late.take 3 (.string y) rfl (by kernel_rfl) (by kernel_rfl) (by kernel_rfl) (by kernel_rfl) rfl (fun V hV=>by obtain ⟨hV1,hV2⟩:=hV;go_simp) hS0 ?_
              refine Late.take 4 (.string (y.extract 13 y.size)) rfl (by kernel_rfl) (by kernel_rfl) (by kernel_rfl) (by kernel_rfl) rfl (fun V hV=>by obtain ⟨hV1,hV2⟩:=hV;go_simp) hS0 ?_
              refine Late.take 5 (.pointer (some ⟨wr.heap.size,1,none⟩)) rfl (by kernel_rfl) (by kernel_rfl) (by kernel_rfl) (by kernel_rfl) rfl (fun V hV=>by obtain ⟨hV1,hV2⟩:=hV;go_simp) hS0 ?_
              refine Late.take 6 (.string y) rfl (by kernel_rfl) (by kernel_rfl) (by kernel_rfl) (by kernel_rfl) rfl (fun V hV=>by obtain ⟨hV1,hV2⟩:=hV;go_simp) hS0 ?_
              refine Late.take 7 (.string (y.extract 0 6)) rfl (by kernel_rfl) (by kernel_rfl) (by kernel_rfl) (by kernel_rfl) rfl (fun V hV=>by obtain ⟨hV1,hV2⟩:=hV;go_simp) hS0 ?_
              refine Late.take 9 (.pointer (some ⟨wr.heap.size,1,none⟩)) rfl (by kernel_rfl) (by kernel_rfl) (by kernel_rfl) (by kernel_rfl) rfl (fun V hV=>by obtain ⟨hV1,hV2⟩:=hV;go_simp) hS0 ?_
              refine Late.take 10 (.string y) rfl (by kernel_rfl) (by kernel_rfl) (by kernel_rfl) (by kernel_rfl) rfl (fun V hV=>by obtain ⟨hV1,hV2⟩:=hV;go_simp) hS0 ?_
              refine Late.take 11 (.string (y.extract 6 13)) rfl (by kernel_rfl) (by kernel_rfl) (by kernel_rfl) (by kernel_rfl) rfl (fun V hV=>by obtain ⟨hV1,hV2⟩:=hV;go_simp) hS0 ?_
              refine Late.one 8 rfl (by kernel_rfl) rfl ?_
              simp only [List.getElem_toArray,List.getElem_cons_succ,List.getElem_cons_zero]
              go_simp
              go_at_call 82
              refine (rnumber_s _ _ HZY.out).mono ?_
              rintro e w' ⟨rfl,rfl⟩
              rw [HX4.out.1]
              refine ⟨hS0,?_⟩
              refine Late.one 12 rfl (by kernel_rfl) rfl ?_
              simp only [List.getElem_toArray,List.getElem_cons_succ,List.getElem_cons_zero]
              go_simp
              go_at_call 83
              refine (rnamed_any _ _).mono ?_
              rintro e w5 ⟨rfl,hb5⟩
              rw [HX4.out.2.1,HX4.out.2.2]
              have HR5:Hid (Rs W4.heap.size b8 W4 ⟨n1,g1,g2,uk,ul,us,ut,v4,ES,n6⟩ (.slice ao2 ES.length cap2) w5):=HRD.out.step hb5
              have HD5:Hid (w5.heap[wr.heap.size]? = some (BF 5 y)):=block_step HD1.out hb5
              have hS5:w5.cell? ⟨b8,8,none⟩ = some (.slice ao2 ES.length cap2)/\w5.cell? ⟨wr.heap.size,1,none⟩ = some (.string y):=⟨(ten_of HR5.out.box).2.2.2.2.2.2.2.2.1,(bf_of HD5.out).2⟩
              have hl5:wr.heap.size < w5.heap.size:=block_lt HD5.out
              have hl6:b8 < w5.heap.size:=block_lt HR5.out.box
              refine ⟨hS5,?_⟩
              clear hb5
              refine Late.one 13 rfl (by kernel_rfl) rfl ?_
              simp only [List.getElem_toArray,List.getElem_cons_succ,List.getElem_cons_zero]
              go_simp
              obtain ⟨hS5a,hS5b⟩:=hS5
              refine Late.one 14 rfl (by kernel_rfl) rfl ?_
              simp only [List.getElem_toArray,List.getElem_cons_succ,List.getElem_cons_zero]
              go_simp
              refine Late.one 15 rfl (by kernel_rfl) rfl ?_
              simp only [List.getElem_toArray,List.getElem_cons_succ,List.getElem_cons_zero]
              rw [HX1.out]
              have hel:ES.length<=1000000:=HEL.out
              refine wp_append_lies _ (.tmp 55) (.tmp 68) 50 rfl W4.heap.size 91 i0 (.agg #[.string ⟨#[]⟩,.int .i64 0,.int .i64 0,.int .i64 0]) 4 40 Tryz.underlying50 hi hz0 hz1 hz2 rfl (by decide) _ ES.length _ (by simp [Act.eval]) (HR5.out.row.alloc _) ⟨w5.heap.size,0,none⟩ 1 1 [.string x.1,.int .i64 x.2.1,.int .i64 x.2.2.1,.int .i64 x.2.2.2] (by simp [Act.eval]) rfl (four_new _ _ rfl _ _ _ _ _) (EE.one x) (by decide) (by unfold maxLen;omega) (by omega) (by have:=HR5.out.below.size;have:=HR5.out.start;simp;omega) (w5.heap.size + 1) (by simp) ?_
              intro gg cap3 w6 hown6 hgrow6 hat6 hlt6
              obtain ⟨q0,q1,q2,HQ⟩:=ent_added (x:=x) HR5.out hown6 hgrow6
              have HD6:Hid (w6.heap[wr.heap.size]? = some (BF 5 y)):=App.keep (HR5.out.row.alloc _) hgrow6 ((Below.heap_alloc _ _ _ hl5).trans HD5.out) (by decide)
              have hS6:w6.cell? ⟨b8,8,none⟩ = some (.slice ao2 ES.length cap2)/\w6.cell? ⟨wr.heap.size,1,none⟩ = some (.string y):=⟨q0,(bf_of HD6.out).2⟩
              refine ⟨fun _=>hS6,?_⟩
              clear hown6 hgrow6 hat6 hlt6 hS5a hS5b
              refine Late.take 16 (.pointer (some ⟨b8,8,none⟩)) rfl (by kernel_rfl) (by kernel_rfl) (by kernel_rfl) (by kernel_rfl) rfl (fun V hV=>by obtain ⟨hV1,hV2⟩:=hV;go_simp) hS6 ?_
              clear hS6
              refine Late.one 17 rfl (by kernel_rfl) rfl ?_
              simp only [List.getElem_toArray,List.getElem_cons_succ,List.getElem_cons_zero]
              go_simp
              refine Late.done (by kernel_rfl) ?_
              simp only [Exit.inBlock,Exit.then]
              go_wp2
              go_roundw
              case rel=>exact ⟨k + 1,_,by omega,by go_num,by rw [HNX.out];exact HQ.out.1⟩
              case measure=>simp [intOf];omega
          · have ht' : (t != 5) = true := by simpa using ht
            have HK1:Hid (Rs W4.heap.size b8 W4 ⟨n1,g1,g2,uk,ul,us,ut,v4,(Pl.allOf (l.take (k + 1)) 5).map Re.entOf,n6⟩ v (wr.alloc (BF t y))):=by
              rw [HMISS.out ht]
              exact HRS.out.step ((Below.refl _ _).alloc (Nat.le_refl _) _)
            go_wp2
            go_roundw
            case rel=>exact ⟨k + 1,v,by omega,by go_num,HK1.out⟩
            case measure=>simp [intOf];omega
        · obtain rfl : k = n := by omega
          have htk:l.take k = l:=by rw [← HN.out];exact List.take_length
          have hlt2:¬ ((k:Int) < (k:Int)):=by omega
          rw [HRE.out _ htk] at HRS
          have HES:Hid (∀ x∈(Re.replyOf l).ents,x.1.size<=maxLen):=Re.ent_small HSM.out
          have HCC:Hid (Re.replyOf (Pl.unpOut s.data.toList) = Re.replyOf l):=by show _ = _;rw [HL.out]
          clear HRE HRS0 htk HX
          generalize Re.replyOf l = r at *
          have HV2:Hid (At EE (fun b=>W4.heap.size<=b) wr v r.ents):=row_at HRS.out.row
          obtain ⟨ao2,cap2,hv,-,-⟩:=HV2.out.open
          obtain ⟨z,hz⟩:∃ z,r.ents.length = z:=⟨_,rfl⟩
          rw [hz] at hv
          subst hv
          clear hz
          have hl2:=block_lt HRr.out
          obtain ⟨c0,c1,c2,c3,c4,c5,c6,c7,c8,c9⟩:=ten_of HRS.out.box
          go_wp2_with fail
          refine (repRefPack_any r _ _ HV2.out.wide HES.out).mono ?_
          rintro e w3' ⟨rfl,hb3⟩
          have HK3:Hid (w3'.heap[b8]? = some (BR r (.slice ao2 z cap2))):=block_step HRS.out.box hb3
          have HR3:Hid (w3'.heap[w.heap.size]? = some (BR Re.zero (.slice none 0 0))):=block_step HRr.out hb3
          have HB3:Hid (Below w.heap.size w w3'):=HBr.out.trans (hb3.mono HBr.out.size)
          have HV3:Hid (At EE (fun b=>W4.heap.size<=b) w3' (.slice ao2 z cap2) r.ents):=HV2.out.up hb3
          clear hb3 c0 c1 c2 c3 c4 c5 c6 c7 c8 c9
          have fa:∀ j,w3'.frozen? ⟨w.heap.size,j,none⟩ = false:=fun j=>by simp [World.frozen?,HR3.out]
          have hl3:w.heap.size < w3'.heap.size:=block_lt HR3.out
          obtain ⟨d0,d1,d2,d3,d4,d5,d6,d7,d8,d9⟩:=ten_of HR3.out
          obtain ⟨c0,c1,c2,c3,c4,c5,c6,c7,c8,c9⟩:=ten_of HK3.out
          by_cases hp:Re.packErr r = 0
          · by_cases hq : Re.packOut r = s
            · have HY := Re.isRep_yes H0.out (by rw [HCC.out]; exact hp) (by rw [HCC.out]; exact hq)
              have H:Hid (C = r/\E = 0):=⟨by rw [← HCE.out.1,HY.1,HCC.out],by rw [← HCE.out.2,HY.2]⟩
              rw [hp,hq]
              have t1:(s.toList == s.toList) = true:=beq_self_eq_true _
              clear hp hq HY
              go_wp2
              refine bodyPost_ret (v:=.tuple #[VR r (.slice ao2 z cap2),.int .i64 0]) (by simp [results,Tryz.results58,go_sem,d0,d1,d2,d3,d4,d5,d6,d7,d8,d9]) rfl ⟨.slice ao2 z cap2,?_,?_,putR_below HB3.out (Nat.le_refl _) r (.slice ao2 z cap2)⟩
              · rw [H.out.1,H.out.2]
              · rw [H.out.1]
                exact (HV3.out.grown (putR_grown w3' w.heap.size r (.slice ao2 z cap2)) (fun g hg hle=>by cases hg;omega)).imp (fun b (hb:W4.heap.size<=b) _=>by show w.heap.size<=b;omega)
            · have HY := Re.isRep_no (s := s) (.inr (.inr (by rw [HCC.out]; exact hq)))
              have H:Hid (C = Re.zero/\E = 4):=⟨by rw [← HCE.out.1,HY.1],by rw [← HCE.out.2,HY.2]⟩
              rw [hp]
              have t1:=str_ne hq
              clear hp hq HY
              generalize Re.packOut r = p at *
              go_wp2
              refine bodyPost_ret (v:=.tuple #[VR Re.zero (.slice none 0 0),.int .i64 4]) (by simp [results,Tryz.results58,go_sem,Re.zero,d0,d1,d2,d3,d4,d5,d6,d7,d8,d9]) rfl ⟨.slice none 0 0,?_,?_,putR_below HB3.out (Nat.le_refl _) Re.zero (.slice none 0 0)⟩
              · rw [H.out.1,H.out.2]
              · rw [H.out.1]
                exact At.nil
          · have HY := Re.isRep_no (s := s) (.inr (.inl (by rw [HCC.out]; exact hp)))
            have H:Hid (C = Re.zero/\E = 4):=⟨by rw [← HCE.out.1,HY.1],by rw [← HCE.out.2,HY.2]⟩
            have hp':Re.packErr r = 4:=by unfold Re.packErr at hp ⊢;split at hp <;> simp_all
            rw [hp']
            clear hp hp' HY
            generalize Re.packOut r = p at *
            go_wp2
            refine bodyPost_ret (v:=.tuple #[VR Re.zero (.slice none 0 0),.int .i64 4]) (by simp [results,Tryz.results58,go_sem,Re.zero,d0,d1,d2,d3,d4,d5,d6,d7,d8,d9]) rfl ⟨.slice none 0 0,?_,?_,putR_below HB3.out (Nat.le_refl _) Re.zero (.slice none 0 0)⟩
            · rw [H.out.1,H.out.2]
            · rw [H.out.1]
              exact At.nil
  · have H1 := Re.isRep_no (.inl h0)
    have H:Hid (C = Re.zero/\E = 4):=⟨HCE.out.1.symm.trans H1.1,HCE.out.2.symm.trans H1.2⟩
    obtain ⟨q,hq⟩:∃ q,Pl.unpErr s.data.toList = q:=⟨_,rfl⟩
    have hq1:(q != 0) = true:=by rw [← hq];simpa using h0
    have HQ:Hid (Pl.unpErr s.data.toList = q):=hq
    clear h0 H1 hq
    go_enter Tryz.func58,Tryz.ntmps58
    go_wp2_with fail
    refine (refUnpack_any s _ HS.out).mono ?_
    rintro e w1 ⟨fv,rfl,hown,hb1⟩
    rw [HQ.out]
    have HB1:Hid (Below w.heap.size w w1):=((Below.refl _ _).alloc (Nat.le_refl _) _).trans (hb1.mono (by simp))
    have HR1:Hid (w1.heap[w.heap.size]? = some (BR Re.zero (.slice none 0 0))):=block_step (heap_alloc_new w (BR Re.zero (.slice none 0 0))) hb1
    have fa:∀ j,w1.frozen? ⟨w.heap.size,j,none⟩ = false:=fun j=>by simp [World.frozen?,HR1.out]
    have hl3:w.heap.size < w1.heap.size:=block_lt HR1.out
    obtain ⟨d0,d1,d2,d3,d4,d5,d6,d7,d8,d9⟩:=ten_of HR1.out
    clear hown hb1
    go_wp2
    refine bodyPost_ret (v:=.tuple #[VR Re.zero (.slice none 0 0),.int .i64 4]) (by simp [results,Tryz.results58,go_sem,Re.zero,d0,d1,d2,d3,d4,d5,d6,d7,d8,d9]) rfl ⟨.slice none 0 0,?_,?_,putR_below HB1.out (Nat.le_refl _) Re.zero (.slice none 0 0)⟩
    · rw [H.out.1,H.out.2]
    · rw [H.out.1]
      exact At.nil
theorem repRefUnpack_any (s:ByteArray) (w:World) (hs:s.size<=1048576) :
    Calls Tryz.prog 58 #[.string s] w fun e w'=>∃ v,e = .returned (.tuple #[VR (Re.unpR s.data.toList) v,.int .i64 (Re.unpE s.data.toList)])/\AtW EE w' v (Re.unpR s.data.toList).ents/\Below w.heap.size w w' :=
  (repRefUnpack_at s w hs).mono fun _ _ ⟨v,he,hv,hb⟩=>⟨v,he,hv.wide,hb⟩
end Go.Proofs.YtggoccfddnpelaaGreat.Ks.Rs
namespace Go.Proofs.YtggoccfddnpelaaGreat
open Go.ChangeShapes Go.WideShapes Go.ChangeAt Go.RowKit Go.Deep It
set_option maxRecDepth 100000
set_option maxHeartbeats 4000000 in
theorem mright_any {S : Nat → Prop} (vi vo vz : Value) (dn : Int) (L : List Rw) (O : List Os.Opn) (Z : List Es.Sea) (w : World) (hv : TabAt S w vi L) (hok : Sp.okN L) (ho : AtW Os.EO w vo O) (hz : AtW Es.ES w vz Z) :
    Calls Tryz.prog 34 #[VSt vi vo vz dn] w fun e w'=>e = .returned (.bool (Sh.whole (pl L) O Z dn))/\Below w.heap.size w w':=by
  have HV:Hid (TabAt S w vi L):=hv
  have HO:Hid (AtW Os.EO w vo O):=ho
  have HZ:Hid (AtW Es.ES w vz Z):=hz
  have HOK:Hid (Sp.okN L):=hok
  obtain ⟨p,c,rfl,-,-⟩:=hv.open
  obtain ⟨q,d,rfl,-,-⟩:=ho.open
  obtain ⟨u,z,rfl,hmz,hzx⟩:=hz.open
  obtain ⟨n,hn'⟩:∃ n,L.length = n:=⟨_,rfl⟩
  obtain ⟨m,hm'⟩:∃ m,O.length = m:=⟨_,rfl⟩
  obtain ⟨k,hk'⟩:∃ m,Z.length = m:=⟨_,rfl⟩
  unfold maxLen at hmz
  rw [hk'] at hmz
  rw [hn'] at HV ⊢
  rw [hm'] at HO ⊢
  rw [hk'] at HZ ⊢
  have HN:Hid (Z.length = k):=hk'
  have HX:Hid (Es.Over w u Z):=hzx
  obtain ⟨W,hW⟩:∃ W,W = w.alloc (BSt (.slice p n c) (.slice q m d) (.slice u k z) dn):=⟨_,rfl⟩
  have HB0:Hid (Below w.heap.size w W):=by show Below w.heap.size w W;rw [hW];exact (Below.refl _ w).alloc (Nat.le_refl _) _
  have HA0:Hid (W.heap[w.heap.size]? = some (BSt (.slice p n c) (.slice q m d) (.slice u k z) dn)):=by show W.heap[w.heap.size]? = _;rw [hW];exact heap_alloc_new _ _
  obtain ⟨r1,hr1⟩:∃ r,Nf.right (pl L) O dn = r:=⟨_,rfl⟩
  obtain ⟨r2,hr2⟩:∃ r,Es.Se.ok Z = r:=⟨_,rfl⟩
  obtain ⟨r3,hr3⟩:∃ r,Z.any Sh.noRep = r:=⟨_,rfl⟩
  have hE:Sh.whole (pl L) O Z dn = (r1 && (r2 && !r3)):=by
    unfold Sh.whole
    rw [hr1,hr2,hr3]
  rw [hE]
  have HR:Hid (Nf.right (pl L) O dn = r1/\Es.Se.ok Z = r2/\Z.any Sh.noRep = r3):=⟨hr1,hr2,hr3⟩
  obtain ⟨a0,a1,a2,a3⟩:=st_of HA0.out
  have hla:=(Array.getElem?_eq_some_iff.1 HA0.out).1
  clear hv ho hz hok hn' hm' hk' hr1 hr2 hr3 hE hzx
  go_enter Tryz.func34,Tryz.ntmps34
  go_wp2_with fail
  rw [← hW]
  clear hW a0 a1 a2 a3
  refine (nrright_any _ _ u k z dn L O _ (HV.out.up HB0.out) HOK.out (HO.out.up HB0.out)).mono ?_
  rintro e w1 ⟨rfl,hb1⟩
  rw [HR.out.1]
  have HB1:Hid (Below w.heap.size w w1):=HB0.out.trans (hb1.mono HB0.out.size)
  have HA1:Hid (w1.heap[w.heap.size]? = some (BSt (.slice p n c) (.slice q m d) (.slice u k z) dn)):=(hb1.block _ hla).trans HA0.out
  clear hb1
  cases r1 with
  | false =>
    go_wp2
    go_ret
    exact ⟨rfl,HB1.out⟩
  | true =>
    obtain ⟨a0,a1,a2,a3⟩:=st_of HA1.out
    have hl1:=(Array.getElem?_eq_some_iff.1 HA1.out).1
    go_wp2_with fail
    clear a0 a1 a2 a3
    refine (Es.rright_any _ Z _ (HZ.out.up HB1.out)).mono ?_
    rintro e w2 ⟨rfl,hb2⟩
    rw [HR.out.2.1]
    have HB2:Hid (Below w.heap.size w w2):=HB1.out.trans (hb2.mono HB1.out.size)
    have HA2:Hid (w2.heap[w.heap.size]? = some (BSt (.slice p n c) (.slice q m d) (.slice u k z) dn)):=(hb2.block _ hl1).trans HA1.out
    clear hb2
    cases r2 with
    | false =>
      go_wp2
      go_ret
      exact ⟨rfl,HB2.out⟩
    | true =>
      have HSM:Hid (∀ x∈Z,x.2.2.size<=1048576):=fun x hx=>by
        have h:=((Es.Se.ok_iff Z).1 HR.out.2.1).2.1 x hx
        have:=h.2.2
        omega
      obtain ⟨a0,a1,a2,a3⟩:=st_of HA2.out
      go_wp2_with fail
      clear a0 a1 a2 a3
      go_loopw [19] (fun i wr=>∃ j:Nat,j<=k/\i = .int .i64 j/\Hid (∀ i x,i < j->Z[i]? = some x->Sh.noRep x = false)/\Hid (Below w.heap.size w wr)) (fun i _=>k - (intOf i).toNat)
      case atStart=>exact ⟨0,Nat.zero_le _,rfl,fun i x hi=>by omega,HB2⟩
      case round =>
        obtain ⟨j,hj,rfl,HP,HB⟩:=hrel
        have hsz:=HB.out.size
        by_cases hlt:j < k
        · obtain ⟨x, hxk⟩ : ∃ x, Z[j]? = some x := ⟨_, List.getElem?_eq_getElem (by rw [HN.out]; exact hlt)⟩
          have HXK:Hid (Z[j]? = some x):=hxk
          obtain ⟨b,off,rfl,-,hB,hc⟩:=HX.out j x hxk
          obtain ⟨c0,c1,c2⟩:=Es.sea_cells HB.out hB hc
          have HXM:Hid (x.2.2.size<=1048576):=HSM.out x (List.mem_of_getElem? hxk)
          obtain ⟨r,hr⟩:∃ r,Ks.Rs.Re.unpE x.2.2.data.toList = r:=⟨_,rfl⟩
          have HRR:Hid (Ks.Rs.Re.unpE x.2.2.data.toList = r):=hr
          have HC:Hid (∀ V,Calls Tryz.prog 58 #[.string x.2.2] V fun e w'=>∃ v,e = .returned (.tuple #[Ks.Rs.VR (Ks.Rs.Re.unpR x.2.2.data.toList) v,.int .i64 r])/\AtW Ks.Rs.EE w' v (Ks.Rs.Re.unpR x.2.2.data.toList).ents/\Below V.heap.size V w'):=fun V=>by
            have h:=Ks.Rs.repRefUnpack_any x.2.2 V HXM.out
            rwa [hr] at h
          have hlt':(j:Int) < (k:Int):=by omega
          have HBX:Hid (Below w.heap.size w (wr.alloc (Es.BS x))):=HB.out.alloc hsz _
          clear hc hxk hr
          go_wp2_with fail
          refine (HC.out _).mono ?_
          rintro e w3 ⟨v,rfl,hv,hb⟩
          have HB3:Hid (Below w.heap.size w w3):=HBX.out.trans (hb.mono HBX.out.size)
          obtain ⟨va,vn,vc,rfl⟩:∃ a n c,v = .slice a n c:=by obtain ⟨a,c,h,-⟩:=hv.open;exact ⟨_,_,_,h⟩
          have HS:=HB3.out.size
          clear hv hb c0 c1 c2
          by_cases hr0:r = 0
          · have HF : Hid (Sh.noRep x = false) := by show Sh.noRep x = false; unfold Sh.noRep; rw [HRR.out]; simp [hr0]
            subst hr0
            have HP2:Hid (∀ i x,i < j + 1->Z[i]? = some x->Sh.noRep x = false):=fun i y hi hy=>by
              by_cases e:i = j
              · subst e
                rw [HXK.out] at hy
                cases hy
                exact HF.out
              · exact HP.out i y (by omega) hy
            go_wp2
            go_roundw
            case rel=>exact ⟨j + 1,by omega,by go_num,HP2,HB3.out.alloc HS _⟩
            case measure=>simp [intOf];omega
          · have ht : (r != 0) = true := by simp [hr0]
            have HF:Hid (r3 = true):=by
              show r3 = true
              rw [← HR.out.2.2]
              exact List.any_eq_true.2 ⟨x,List.mem_of_getElem? HXK.out,by unfold Sh.noRep;rw [HRR.out];simp [hr0]⟩
            clear hr0
            go_wp2
            go_ret
            rw [HF.out]
            exact ⟨rfl,HB3.out.alloc HS _⟩
        · obtain rfl : j = k := by omega
          have HF:Hid (r3 = false):=by
            show r3 = false
            rw [← HR.out.2.2]
            refine List.any_eq_false.2 fun x hx=>?_
            obtain ⟨i,hi⟩:=List.mem_iff_getElem?.1 hx
            have:=HP.out i x (by rw [← HN.out];exact (List.getElem?_eq_some_iff.1 hi).1) hi
            rw [this]
            simp
          go_wp2
          go_ret
          rw [HF.out]
          exact ⟨rfl,HB.out⟩
end Go.Proofs.YtggoccfddnpelaaGreat
