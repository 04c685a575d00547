/- BWrite, BEnd, as one. -/
import Derived.Test.YtneojimodomohaaGreatV28
set_option maxHeartbeats 8000000
set_option maxRecDepth 100000
namespace Go.Proofs.YtneojimodomohaaGreat.Bs
open Go.RowKit Go.Shelf
attribute [local go_sem] Oper.semAt_some
def Bl.wErr (l:List Bl.R) (at_:Int) (d:ByteArray):Int :=
 if Bl.right (-1) l then if at_ < 0 then 1 else if 1048576 - (d.size:Int) < at_ then 408 else 0 else 80
def Bl.wOut (l:List Bl.R) (at_:Int) (d:ByteArray):List Bl.R:=if Bl.wErr l at_ d = 0 then Bl.write l at_ d else []
theorem write_ok (v:Value) (l:List Bl.R) (at_:Int) (d:ByteArray) (w:World) (hv:FieldsAt w.heap.size w v l) (hok:okFields l) (hr:Bl.right (-1) l) (h0:0<=at_) (h1:at_ + (d.size:Int)<=1048576) :
  Calls Tryz.prog 98 #[v,.int .i64 at_,.string d] w fun e w'=>∃ r,e = .returned (.tuple #[r,.int .i64 0])/\w'.ownsRow w.heap.size 60 2 r (Bl.write l at_ d).length (cellsOf (Bl.write l at_ d))/\Below w.heap.size w w':=by
 have HE:Hid (Bl.err l = 0):=by show Bl.err l = 0;unfold Bl.err;rw [if_pos hr]
 have HV:Hid (FieldsAt w.heap.size w v l):=hv;obtain ⟨ao,cap,rfl,hm,_⟩:=hv.open;clear hv;have h0':¬ at_ < 0:=by omega
 have h1':¬ 1048576 - (d.size:Int) < at_:=by omega
 refine (callsIn_wide (n:=3)).1 ?_;refine callsIn_of_wp_marks Tryz.func98 rfl trivial ?_ rfl;simp only [Tryz.ntmps98,List.size_toArray,List.length_cons,List.length_nil,Nat.reduceAdd,Nat.reduceSub,Array.replicate_succ,Array.replicate_zero,List.push_toArray,List.append_toArray,List.nil_append,List.cons_append];refine wpIn_wide.2 ?_;go_wp2_with fail;refine (check_any _ l _ HV.out hok).mono ?_;rintro e w1 ⟨rfl,hb1⟩;rw [HE.out];go_wp2_with fail;refine (within_any _ _ _ _ ⟨_,_,_,rfl⟩).mono ?_;rintro e w2 ⟨rfl,rfl⟩;go_wp2;have hO:w.heap.size<=w1.heap.size:=hb1.size;have hl0:l.length<=1048577:=by
  have h:(l.length:Int)<=1048576 - -1:=Bl.right_length hr (by decide);omega
 obtain ⟨n₀,hn₀⟩:=qE w.heap.size;obtain ⟨O,hOO⟩:=qE w1.heap.size;obtain ⟨lv,hlv⟩:=qE (Value.slice ao l.length cap);have b3:=three_new (w1.alloc (.cells #[.slice none 0 0] 56)) lv 0 at_;rw [World.size_alloc] at b3;have bO:=(((Boxed.new w1 56 (.slice none 0 0)).alloc (.cells #[lv] 56)).alloc (.cells #[.int .i64 0] 3)).alloc (.cells #[.int .i64 at_] 3);have hB0:Below w.heap.size w ((((w1.alloc (.cells #[.slice none 0 0] 56)).alloc (.cells #[lv] 56)).alloc (.cells #[.int .i64 0] 3)).alloc (.cells #[.int .i64 at_] 3)) :=
  (((hb1.alloc hO _).alloc (by simp;omega) _).alloc (by simp;omega) _).alloc (by simp;omega) _
 have hsz:((((w1.alloc (.cells #[.slice none 0 0] 56)).alloc (.cells #[lv] 56)).alloc (.cells #[.int .i64 0] 3)).alloc (.cells #[.int .i64 at_] 3)).heap.size = w1.heap.size + 4:=by simp
 rw [hlv,hn₀] at HV;rw [hlv];obtain ⟨W0,hW0⟩:=qE ((((w1.alloc (.cells #[.slice none 0 0] 56)).alloc (.cells #[lv] 56)).alloc (.cells #[.int .i64 0] 3)).alloc (.cells #[.int .i64 at_] 3));rw [hW0] at b3 bO hB0 hsz ⊢;rw [hOO] at b3 bO hsz hO;rw [hn₀] at hB0 hO;have hF0:FieldsAt n₀ W0 lv l:=HV.out.below hB0 (Nat.le_refl _);rw [hOO];refine (wpIn_wide (n:=3)).1 ?_;refine wpIn_rangeFunc_ownH rfl (by omega) (gf:=187) (lb:=#[.pointer (some ⟨O + 1,0,none⟩),.pointer (some ⟨O + 1 + 1,0,none⟩),.pointer (some ⟨O + 1 + 1 + 1,0,none⟩)]) rfl trivial (enters_of Tryz.func187 (by kernel_rfl) rfl)
  (iter_stops (3 - 1) (by omega) (O + 1) n₀ lv l 0 at_ hr W0 (by omega) (by omega) hF0 b3) (fun h k=>keptK_t h k) (keptK_b (by omega) (by omega)) (Below.refl _ _) (fun _=>rfl)
  (fun pre W=>((∃ v,Boxed W O 56 v/\W.ownsRow n₀ 60 2 v (Bl.joins [] (pre.map (·.1))).length (cellsOf (Bl.joins [] (pre.map (·.1))))/\True)/\Three W (O + 1) lv 0 at_)/\Below n₀ w W)
  (fun _ _ _=>False)
  (OwnFrom.and (OwnFrom.and (Own.from (holdsRow_own n₀ O 56 60 2 (fun pre:List (In 0 at_)=>(Bl.joins [] (pre.map (·.1))).length) (fun pre=>cellsOf (Bl.joins [] (pre.map (·.1)))) (fun _ _=>True)) _) (Own.from (three_own _ _ _ _) _)) (ownFrom_below (by omega) (by omega)))
  (fun _ _ _ _ _ hs _ _=>hs)
  ⟨⟨⟨_,bO,World.ownsRow_nil _ _ _ _,trivial⟩,b3⟩,hB0⟩
  (fun x a' W=>∃ Bx,W.heap[Bx]? = some (.cells #[.int .i64 x.1.1,.string x.1.2] 60 (0,0))/\a' = { tmps:=#[lv,.int .i64 at_,.string d,undef,undef,undef,.slice none 0 0,.int .i64 0,.pointer (some ⟨O,0,none⟩),.pointer (some ⟨Bx,0,none⟩),undef,.bool false,lv,.int .i64 0,.bool false,.bool (decide (at_ < 0)),.int .i64 at_,.bool (decide (at_ < 0)),.bool (decide (1048576 - (d.size:Int) < at_)),.int .i64 at_,.string d,.int .i64 d.size,.int .i64 (1048576 - (d.size:Int)),.bool (decide (1048576 - (d.size:Int) < at_)),lv,.int .i64 at_,.func (.func 187) #[] #[.pointer (some ⟨O + 1,0,none⟩),.pointer (some ⟨O + 1 + 1,0,none⟩),.pointer (some ⟨O + 1 + 1 + 1,0,none⟩)],.agg #[.int .i64 x.1.1,.string x.1.2],undef,undef,undef,undef,undef,undef,undef,undef,undef,undef,undef,undef,undef,undef,undef,undef,undef,undef,undef,undef,undef],defers:=[] })
  (fun x a' _ X Y row hs hg hr=>by obtain ⟨Bx,h1,h2⟩:=hs;exact ⟨Bx,cells_own (β:=Unit) Bx _ _ () X Y row h1 hg (fun r e=>(hr r e).2),h2⟩)
  ?assign ?body ?done ?stop
 case assign =>
  rintro lp pre x W K ⟨⟨⟨v,bv,hv,_⟩,t3⟩,hB⟩ hK;simp only [encs]
  gi_wp2
  refine hK _ _ ((KeepsOthers.alloc _ _).from _) (Kept.still (World.grownBy_alloc _ _ _)) ⟨⟨⟨v,bv.alloc _,hv.alloc _,trivial⟩,t3.alloc _⟩,hB.alloc (by have:=hB.size;omega) _⟩ ⟨W.heap.size,heap_alloc_new _ _,rfl⟩
 case body =>
  rintro lp pre x a' W _ _ ⟨⟨⟨v,bv,hv,_⟩,t3⟩,hB⟩ ⟨Bx,hBx,rfl⟩ hlt;have hsW:n₀<=W.heap.size:=by have:=hB.size;omega
  have cO:=bv.cell;obtain ⟨x0,x1⟩:=two_of hBx;have HJ:Hid (Fit (Bl.joins [] (pre.map (·.1)))/\x.1.2.size<=1048576):=⟨Bl.fit (fun r hr=>by cases hr) (by simp) (low_in (Int.le_refl _) (by omega) pre) (by simp;omega),in_size (Int.le_refl _) (by omega) x⟩
  gi_wp2_with (refine ⟨trivial,?_⟩;gi_at_call 148;refine (CallsIn.inRound lp (callsIn_wide.2 (join_any n₀ v (Bl.joins [] (pre.map (·.1))) x.1 W hv hsW HJ.out.1 HJ.out.2))).mono ?_;rintro e w' ⟨v',rfl,hown',hgrow'⟩;obtain ⟨g',cap',rfl⟩:=own_pos hown' (Bl.join_pos _ _);obtain ⟨k1,k2,k3,k4,k5,k6⟩:=joined bv hv hsW hO hown' hgrow';have hc1:=k1.cell;have hf1:=k1.frozen)
  have t3':=(show Three _ (O + 1) lv 0 at_ from ⟨k6 _ _ _ (by decide) (by omega) t3.1,k6 _ _ _ (by decide) (by omega) t3.2.1,k6 _ _ _ (by decide) (by omega) t3.2.2⟩);exact ⟨k4.from _,t3.kept t3' k5,⟨⟨_,k2,by rw [List.map_append,List.map_cons,List.map_nil,Bl.joins_snoc];exact k3,trivial⟩,t3'⟩,hB.trans k5⟩
 case done =>
  rintro D ys W hD hys ⟨⟨⟨v,bv,hv,_⟩,t3⟩,hB⟩ hK;rw [hys] at hv;have hsW:n₀<=W.heap.size:=by have:=hB.size;omega
  have cO:=bv.cell;have hDlt:D < W.heap.size:=(qL hK);have HL1:Hid (Bl.low (Bl.within 0 at_ l)/\(Bl.within 0 at_ l).length<=1048577):=by
   refine ⟨?_,?_⟩
   ·rw [← hys];exact low_in (Int.le_refl _) (by omega) ys
   ·have:(Bl.within 0 at_ l).length<=l.length:=List.length_filterMap_le _ _;omega
  by_cases hd0:d.size = 0
  ·have hem:d.toList.isEmpty = true:=by
    rw [ByteArray.toList_eq,List.isEmpty_iff];exact List.eq_nil_of_length_eq_zero (by simpa using hd0)
   have HD0:Hid _:=hd0;clear hd0;go_wp2_with fail;refine (within_any _ _ _ _ ⟨ao,l.length,cap,hlv.symm⟩).mono ?_;rintro e w4 ⟨rfl,rfl⟩;go_wp2;have HWR:Hid (Bl.write l at_ d = Bl.joins (Bl.joins [] (Bl.within 0 at_ l)) (Bl.within (at_ + d.size) 1048576 l)):=by
    show Bl.write l at_ d = _;unfold Bl.write Bl.parts;rw [if_pos HD0.out,List.append_nil,Bl.joins_append]
   have HLO:Hid (Bl.low (Bl.joins [] (Bl.within 0 at_ l))/\(Bl.joins [] (Bl.within 0 at_ l)).length<=1048578):=⟨Bl.low_joins (fun r hr=>by cases hr) HL1.out.1,by have h1:=Bl.length_joins (Bl.within 0 at_ l) [];have h2:=HL1.out.2;simp only [List.length_nil] at h1;omega⟩;have bX:=bv;have rX:=hv;have hBX:=hB;have mX:=hK;obtain ⟨WX,hWX⟩:=qE W;rw [hWX] at bX rX hBX mX ⊢;obtain ⟨out,hout⟩:=qE (Bl.joins [] (Bl.within 0 at_ l));rw [hout] at HWR HLO rX;clear bv hv hB t3 hK cO;have b4:=three_new WX lv (at_ + (d.size:Int)) 1048576;have bO4:=((bX.alloc (.cells #[lv] 56)).alloc (.cells #[.int .i64 (at_ + (d.size:Int))] 3)).alloc (.cells #[.int .i64 1048576] 3);have rO4:=((rX.alloc (.cells #[lv] 56)).alloc (.cells #[.int .i64 (at_ + (d.size:Int))] 3)).alloc (.cells #[.int .i64 1048576] 3);have hszX:n₀<=WX.heap.size:=by have:=hBX.size;omega
   have hB4:Below n₀ w (((WX.alloc (.cells #[lv] 56)).alloc (.cells #[.int .i64 (at_ + (d.size:Int))] 3)).alloc (.cells #[.int .i64 1048576] 3)) :=
    ((hBX.alloc hszX _).alloc (by simp;omega) _).alloc (by simp;omega) _
   have m4:(((WX.alloc (.cells #[lv] 56)).alloc (.cells #[.int .i64 (at_ + (d.size:Int))] 3)).alloc (.cells #[.int .i64 1048576] 3)).heap[D]? = some (.deferred (some [])):=by
    have hd1:D < WX.heap.size:=(qL mX);exact (Below.heap_alloc _ _ _ (by simp;omega)).trans ((Below.heap_alloc _ _ _ (by simp;omega)).trans ((Below.heap_alloc _ _ _ hd1).trans mX))
   have hsz4:(((WX.alloc (.cells #[lv] 56)).alloc (.cells #[.int .i64 (at_ + (d.size:Int))] 3)).alloc (.cells #[.int .i64 1048576] 3)).heap.size = WX.heap.size + 3:=by simp
   obtain ⟨W4,hW4⟩:=qE (((WX.alloc (.cells #[lv] 56)).alloc (.cells #[.int .i64 (at_ + (d.size:Int))] 3)).alloc (.cells #[.int .i64 1048576] 3));rw [hW4] at b4 bO4 rO4 hB4 m4 hsz4 ⊢;clear hW4;obtain ⟨M,hM⟩:=qE WX.heap.size;have hOM:O < M:=by have:=bX.lt;omega
   have hDM:D < M:=by have:=(qL mX);omega
   rw [hM] at b4 hsz4 hszX;rw [hM];have hF4:FieldsAt n₀ W4 lv l:=HV.out.below hB4 (Nat.le_refl _);have HL2:Hid _:=HLO.out;clear bX rX hBX mX hM;refine (wpIn_wide (n:=3)).1 ?_;refine wpIn_rangeFunc_ownH rfl (by omega) (gf:=187) (lb:=#[.pointer (some ⟨M,0,none⟩),.pointer (some ⟨M + 1,0,none⟩),.pointer (some ⟨M + 1 + 1,0,none⟩)]) rfl trivial (enters_of Tryz.func187 (by kernel_rfl) rfl)
    (iter_stops (3 - 1) (by omega) M n₀ lv l (at_ + (d.size:Int)) 1048576 hr W4 (by omega) (by omega) hF4 b4) (fun h k=>keptK_t h k) (keptK_b (by omega) (by omega)) (Below.refl _ _) (fun _=>rfl)
    (fun pre W=>(((∃ v,Boxed W O 56 v/\W.ownsRow n₀ 60 2 v (Bl.joins out (pre.map (·.1))).length (cellsOf (Bl.joins out (pre.map (·.1))))/\True)/\Three W M lv (at_ + (d.size:Int)) 1048576)/\W.heap[D]? = some (.deferred (some [])))/\Below n₀ w W)
    (fun _ _ _=>False)
    (OwnFrom.and (OwnFrom.and (OwnFrom.and (Own.from (holdsRow_own n₀ O 56 60 2 (fun pre:List (In (at_ + (d.size:Int)) 1048576)=>(Bl.joins out (pre.map (·.1))).length) (fun pre=>cellsOf (Bl.joins out (pre.map (·.1)))) (fun _ _=>True)) _) (Own.from (three_own _ _ _ _) _)) (mark_own _ (by omega))) (ownFrom_below (by omega) (by omega)))
    (fun _ _ _ _ _ hs _ _=>hs)
    ⟨⟨⟨⟨_,bO4,rO4,trivial⟩,b4⟩,m4⟩,hB4⟩
    (fun x a' W=>∃ Bx,W.heap[Bx]? = some (.cells #[.int .i64 x.1.1,.string x.1.2] 60 (0,0))/\a' = { tmps:=#[lv,.int .i64 at_,.string d,undef,undef,undef,.slice none 0 0,.int .i64 0,.pointer (some ⟨O,0,none⟩),undef,.pointer (some ⟨Bx,0,none⟩),.bool false,lv,.int .i64 0,.bool false,.bool (decide (at_ < 0)),.int .i64 at_,.bool (decide (at_ < 0)),.bool (decide (1048576 - (d.size:Int) < at_)),.int .i64 at_,.string d,.int .i64 d.size,.int .i64 (1048576 - (d.size:Int)),.bool (decide (1048576 - (d.size:Int) < at_)),lv,.int .i64 at_,.func (.func 187) #[] #[.pointer (some ⟨O + 1,0,none⟩),.pointer (some ⟨O + 1 + 1,0,none⟩),.pointer (some ⟨O + 1 + 1 + 1,0,none⟩)],undef,undef,undef,undef,.string d,.bool false,undef,undef,undef,undef,undef,lv,.int .i64 at_,.string d,.int .i64 d.size,.int .i64 (at_ + (d.size:Int)),.func (.func 187) #[] #[.pointer (some ⟨M,0,none⟩),.pointer (some ⟨M + 1,0,none⟩),.pointer (some ⟨M + 1 + 1,0,none⟩)],.agg #[.int .i64 x.1.1,.string x.1.2],undef,undef,undef,undef],defers:=[] })
    (fun x a' _ X Y row hs hg hr=>by obtain ⟨Bx,h1,h2⟩:=hs;exact ⟨Bx,cells_own (β:=Unit) Bx _ _ () X Y row h1 hg (fun r e=>(hr r e).2),h2⟩)
    ?assign2 ?body2 ?done2 ?stop2
   case assign2 =>
    rintro lp pre x W K ⟨⟨⟨⟨v,bv,hv,_⟩,t3⟩,mk⟩,hB⟩ hK;simp only [encs]
    gi_wp2
    refine hK _ _ ((KeepsOthers.alloc _ _).from _) (Kept.still (World.grownBy_alloc _ _ _)) ⟨⟨⟨⟨v,bv.alloc _,hv.alloc _,trivial⟩,t3.alloc _⟩,(Below.heap_alloc _ _ _ (qL mk)).trans mk⟩,hB.alloc (by have:=hB.size;omega) _⟩ ⟨W.heap.size,heap_alloc_new _ _,rfl⟩
   case body2 =>
    rintro lp pre x a' W _ _ ⟨⟨⟨⟨v,bv,hv,_⟩,t3⟩,mk⟩,hB⟩ ⟨Bx,hBx,rfl⟩ hlt;have hsW:n₀<=W.heap.size:=by have:=hB.size;omega
    have cO:=bv.cell;obtain ⟨x0,x1⟩:=two_of hBx;have HJ:Hid (Fit (Bl.joins out (pre.map (·.1)))/\x.1.2.size<=1048576):=⟨Bl.fit HL2.out.1 (by have:=HL2.out.2;omega) (low_in (by omega) (Int.le_refl _) pre) (by simp;omega),in_size (by omega) (Int.le_refl _) x⟩
    gi_wp2_with (refine ⟨trivial,?_⟩;gi_at_call 148;refine (CallsIn.inRound lp (callsIn_wide.2 (join_any n₀ v (Bl.joins out (pre.map (·.1))) x.1 W hv hsW HJ.out.1 HJ.out.2))).mono ?_;rintro e w' ⟨v',rfl,hown',hgrow'⟩;obtain ⟨g',cap',rfl⟩:=own_pos hown' (Bl.join_pos _ _);obtain ⟨k1,k2,k3,k4,k5,k6⟩:=joined bv hv hsW hO hown' hgrow';have hc1:=k1.cell;have hf1:=k1.frozen)
    have t3':=(show Three _ M lv (at_ + (d.size:Int)) 1048576 from ⟨k6 _ _ _ (by decide) (by omega) t3.1,k6 _ _ _ (by decide) (by omega) t3.2.1,k6 _ _ _ (by decide) (by omega) t3.2.2⟩);exact ⟨k4.from _,t3.kept t3' k5,⟨⟨⟨_,k2,by rw [List.map_append,List.map_cons,List.map_nil,Bl.joins_snoc];exact k3,trivial⟩,t3'⟩,k4.same D _ mk rfl⟩,hB.trans k5⟩
   case done2 =>
    rintro D2 zs W hD2 hzs ⟨⟨⟨⟨v,bv,hv,_⟩,t3⟩,mk⟩,hB⟩ hK2;rw [hzs] at hv;have cO:=bv.cell;go_wp2;have mk2:(W.putObj D2 (.deferred none)).heap[D]? = some (.deferred (some [])):=(World.putObj_heap_other (by omega)).trans mk;refine ⟨by simp,.inl ⟨_,_,rfl,run_takeDeferred hK2,by simp,.inl ⟨_,_,rfl,run_takeDeferred mk2,?_⟩⟩⟩;have hrow5:=ownsRow_putObj (ownsRow_putObj hv (.deferred none) hK2 rfl) (.deferred none) mk2 rfl;have hB5:Below n₀ w ((W.putObj D2 (.deferred none)).putObj D (.deferred none)):=(hB.trans (belowK_b (w:=W4) (by omega) W D2 _ _ (by omega) hK2 rfl rfl)).trans (belowK_b (w:=W0) (by omega) _ D _ _ (by omega) mk2 rfl rfl);refine ⟨.tuple #[v,.int .i64 0],by simp [results,Tryz.results98,go_sem],⟨v,rfl,?_,?_⟩⟩
    ·rw [hn₀,HWR.out];exact hrow5
    ·rw [hn₀];exact hB5
   case stop2 =>
    rintro D c pre W _ _ h _;exact h.elim
  ·have hem:d.toList.isEmpty = false:=by
    rw [ByteArray.toList_eq,List.isEmpty_eq_false_iff];intro h;have:d.data.toList.length = 0:=by rw [h];rfl
    exact hd0 (by simpa using this)
   have HJ:Hid (Fit (Bl.joins [] (Bl.within 0 at_ l))/\d.size<=1048576):=⟨Bl.fit (fun r hr=>by cases hr) (by simp) HL1.out.1 (by have:=HL1.out.2;omega),by omega⟩;go_wp2_with fail;refine (join_any n₀ v (Bl.joins [] (Bl.within 0 at_ l)) (at_,d) W hv hsW HJ.out.1 HJ.out.2).mono ?_;rintro e w3 ⟨v',rfl,hown',hgrow'⟩;obtain ⟨g',cap',rfl⟩:=own_pos hown' (Bl.join_pos _ _);obtain ⟨k1,k2,k3,k4,k5,k6⟩:=joined bv hv hsW hO hown' hgrow';have hc1:=k1.cell;have hf1:=k1.frozen;go_wp2_with fail;refine (within_any _ _ _ _ ⟨ao,l.length,cap,hlv.symm⟩).mono ?_;rintro e w4 ⟨rfl,rfl⟩;go_wp2;have HWR:Hid (Bl.write l at_ d = Bl.joins (Bl.join (Bl.joins [] (Bl.within 0 at_ l)) (at_,d)) (Bl.within (at_ + d.size) 1048576 l)):=by
    show Bl.write l at_ d = _;unfold Bl.write Bl.parts;rw [if_neg hd0,Bl.joins_append,Bl.joins_snoc]
   have HLO:Hid (Bl.low (Bl.join (Bl.joins [] (Bl.within 0 at_ l)) (at_,d))/\(Bl.join (Bl.joins [] (Bl.within 0 at_ l)) (at_,d)).length<=1048578):=by
    refine ⟨Bl.low_join (Bl.low_joins (fun r hr=>by cases hr) HL1.out.1) ⟨h0,?_⟩,?_⟩
    ·unfold Bl.rend;simp only;omega
    ·have h1:=Bl.length_joins (Bl.within 0 at_ l) [];have h2:=HL1.out.2;have h3:=Bl.length_join (Bl.joins [] (Bl.within 0 at_ l)) (at_,d);simp only [List.length_nil] at h1;omega
   have bX:=k2;have rX:=k3;have hBX:=hB.trans k5;have mX:=k4.same D _ hK rfl;obtain ⟨out,hout⟩:=qE (Bl.join (Bl.joins [] (Bl.within 0 at_ l)) (at_,d));obtain ⟨v5,hv5⟩:=qE (Value.slice (some ⟨g',0,none⟩) (Bl.join (Bl.joins [] (Bl.within 0 at_ l)) (at_,d)).length cap');rw [hv5] at bX rX hBX mX ⊢;rw [hout] at HWR HLO rX;obtain ⟨WX,hWX⟩:=qE (w3.setCell ⟨O,0,none⟩ v5);have hwsz:w3.heap.size = WX.heap.size:=by rw [← hWX];simp [World.setCell]
   rw [hwsz];rw [hWX] at bX rX hBX mX ⊢;clear k1 k2 k3 k4 k5 k6 hc1 hf1 hown' hgrow' bv hv hB t3 hK cO hv5;have b4:=three_new WX lv (at_ + (d.size:Int)) 1048576;have bO4:=((bX.alloc (.cells #[lv] 56)).alloc (.cells #[.int .i64 (at_ + (d.size:Int))] 3)).alloc (.cells #[.int .i64 1048576] 3);have rO4:=((rX.alloc (.cells #[lv] 56)).alloc (.cells #[.int .i64 (at_ + (d.size:Int))] 3)).alloc (.cells #[.int .i64 1048576] 3);have hszX:n₀<=WX.heap.size:=by have:=hBX.size;omega
   have hB4:Below n₀ w (((WX.alloc (.cells #[lv] 56)).alloc (.cells #[.int .i64 (at_ + (d.size:Int))] 3)).alloc (.cells #[.int .i64 1048576] 3)) :=
    ((hBX.alloc hszX _).alloc (by simp;omega) _).alloc (by simp;omega) _
   have m4:(((WX.alloc (.cells #[lv] 56)).alloc (.cells #[.int .i64 (at_ + (d.size:Int))] 3)).alloc (.cells #[.int .i64 1048576] 3)).heap[D]? = some (.deferred (some [])):=by
    have hd1:D < WX.heap.size:=(qL mX);exact (Below.heap_alloc _ _ _ (by simp;omega)).trans ((Below.heap_alloc _ _ _ (by simp;omega)).trans ((Below.heap_alloc _ _ _ hd1).trans mX))
   have hsz4:(((WX.alloc (.cells #[lv] 56)).alloc (.cells #[.int .i64 (at_ + (d.size:Int))] 3)).alloc (.cells #[.int .i64 1048576] 3)).heap.size = WX.heap.size + 3:=by simp
   obtain ⟨W4,hW4⟩:=qE (((WX.alloc (.cells #[lv] 56)).alloc (.cells #[.int .i64 (at_ + (d.size:Int))] 3)).alloc (.cells #[.int .i64 1048576] 3));rw [hW4] at b4 bO4 rO4 hB4 m4 hsz4 ⊢;clear hW4;obtain ⟨M,hM⟩:=qE WX.heap.size;have hOM:O < M:=by have:=bX.lt;omega
   have hDM:D < M:=by have:=(qL mX);omega
   rw [hM] at b4 hsz4 hszX;rw [hM];have hF4:FieldsAt n₀ W4 lv l:=HV.out.below hB4 (Nat.le_refl _);have HL2:Hid _:=HLO.out;clear bX rX hBX mX hM;refine (wpIn_wide (n:=3)).1 ?_;refine wpIn_rangeFunc_ownH rfl (by omega) (gf:=187) (lb:=#[.pointer (some ⟨M,0,none⟩),.pointer (some ⟨M + 1,0,none⟩),.pointer (some ⟨M + 1 + 1,0,none⟩)]) rfl trivial (enters_of Tryz.func187 (by kernel_rfl) rfl)
    (iter_stops (3 - 1) (by omega) M n₀ lv l (at_ + (d.size:Int)) 1048576 hr W4 (by omega) (by omega) hF4 b4) (fun h k=>keptK_t h k) (keptK_b (by omega) (by omega)) (Below.refl _ _) (fun _=>rfl)
    (fun pre W=>(((∃ v,Boxed W O 56 v/\W.ownsRow n₀ 60 2 v (Bl.joins out (pre.map (·.1))).length (cellsOf (Bl.joins out (pre.map (·.1))))/\True)/\Three W M lv (at_ + (d.size:Int)) 1048576)/\W.heap[D]? = some (.deferred (some [])))/\Below n₀ w W)
    (fun _ _ _=>False)
    (OwnFrom.and (OwnFrom.and (OwnFrom.and (Own.from (holdsRow_own n₀ O 56 60 2 (fun pre:List (In (at_ + (d.size:Int)) 1048576)=>(Bl.joins out (pre.map (·.1))).length) (fun pre=>cellsOf (Bl.joins out (pre.map (·.1)))) (fun _ _=>True)) _) (Own.from (three_own _ _ _ _) _)) (mark_own _ (by omega))) (ownFrom_below (by omega) (by omega)))
    (fun _ _ _ _ _ hs _ _=>hs)
    ⟨⟨⟨⟨_,bO4,rO4,trivial⟩,b4⟩,m4⟩,hB4⟩
    (fun x a' W=>∃ Bx,W.heap[Bx]? = some (.cells #[.int .i64 x.1.1,.string x.1.2] 60 (0,0))/\a' = { tmps:=#[lv,.int .i64 at_,.string d,undef,undef,undef,.slice none 0 0,.int .i64 0,.pointer (some ⟨O,0,none⟩),undef,.pointer (some ⟨Bx,0,none⟩),.bool false,lv,.int .i64 0,.bool false,.bool (decide (at_ < 0)),.int .i64 at_,.bool (decide (at_ < 0)),.bool (decide (1048576 - (d.size:Int) < at_)),.int .i64 at_,.string d,.int .i64 d.size,.int .i64 (1048576 - (d.size:Int)),.bool (decide (1048576 - (d.size:Int) < at_)),lv,.int .i64 at_,.func (.func 187) #[] #[.pointer (some ⟨O + 1,0,none⟩),.pointer (some ⟨O + 1 + 1,0,none⟩),.pointer (some ⟨O + 1 + 1 + 1,0,none⟩)],undef,undef,undef,undef,.string d,.bool true,v,.int .i64 at_,.string d,.agg #[.int .i64 at_,.string d],v5,lv,.int .i64 at_,.string d,.int .i64 d.size,.int .i64 (at_ + (d.size:Int)),.func (.func 187) #[] #[.pointer (some ⟨M,0,none⟩),.pointer (some ⟨M + 1,0,none⟩),.pointer (some ⟨M + 1 + 1,0,none⟩)],.agg #[.int .i64 x.1.1,.string x.1.2],undef,undef,undef,undef],defers:=[] })
    (fun x a' _ X Y row hs hg hr=>by obtain ⟨Bx,h1,h2⟩:=hs;exact ⟨Bx,cells_own (β:=Unit) Bx _ _ () X Y row h1 hg (fun r e=>(hr r e).2),h2⟩)
    ?assign2 ?body2 ?done2 ?stop2
   case assign2 =>
    rintro lp pre x W K ⟨⟨⟨⟨v,bv,hv,_⟩,t3⟩,mk⟩,hB⟩ hK;simp only [encs]
    gi_wp2
    refine hK _ _ ((KeepsOthers.alloc _ _).from _) (Kept.still (World.grownBy_alloc _ _ _)) ⟨⟨⟨⟨v,bv.alloc _,hv.alloc _,trivial⟩,t3.alloc _⟩,(Below.heap_alloc _ _ _ (qL mk)).trans mk⟩,hB.alloc (by have:=hB.size;omega) _⟩ ⟨W.heap.size,heap_alloc_new _ _,rfl⟩
   case body2 =>
    rintro lp pre x a' W _ _ ⟨⟨⟨⟨v,bv,hv,_⟩,t3⟩,mk⟩,hB⟩ ⟨Bx,hBx,rfl⟩ hlt;have hsW:n₀<=W.heap.size:=by have:=hB.size;omega
    have cO:=bv.cell;obtain ⟨x0,x1⟩:=two_of hBx;have HJ:Hid (Fit (Bl.joins out (pre.map (·.1)))/\x.1.2.size<=1048576):=⟨Bl.fit HL2.out.1 (by have:=HL2.out.2;omega) (low_in (by omega) (Int.le_refl _) pre) (by simp;omega),in_size (by omega) (Int.le_refl _) x⟩
    gi_wp2_with (refine ⟨trivial,?_⟩;gi_at_call 148;refine (CallsIn.inRound lp (callsIn_wide.2 (join_any n₀ v (Bl.joins out (pre.map (·.1))) x.1 W hv hsW HJ.out.1 HJ.out.2))).mono ?_;rintro e w' ⟨v',rfl,hown',hgrow'⟩;obtain ⟨g',cap',rfl⟩:=own_pos hown' (Bl.join_pos _ _);obtain ⟨k1,k2,k3,k4,k5,k6⟩:=joined bv hv hsW hO hown' hgrow';have hc1:=k1.cell;have hf1:=k1.frozen)
    have t3':=(show Three _ M lv (at_ + (d.size:Int)) 1048576 from ⟨k6 _ _ _ (by decide) (by omega) t3.1,k6 _ _ _ (by decide) (by omega) t3.2.1,k6 _ _ _ (by decide) (by omega) t3.2.2⟩);exact ⟨k4.from _,t3.kept t3' k5,⟨⟨⟨_,k2,by rw [List.map_append,List.map_cons,List.map_nil,Bl.joins_snoc];exact k3,trivial⟩,t3'⟩,k4.same D _ mk rfl⟩,hB.trans k5⟩
   case done2 =>
    rintro D2 zs W hD2 hzs ⟨⟨⟨⟨v,bv,hv,_⟩,t3⟩,mk⟩,hB⟩ hK2;rw [hzs] at hv;have cO:=bv.cell;go_wp2;have mk2:(W.putObj D2 (.deferred none)).heap[D]? = some (.deferred (some [])):=(World.putObj_heap_other (by omega)).trans mk;refine ⟨by simp,.inl ⟨_,_,rfl,run_takeDeferred hK2,by simp,.inl ⟨_,_,rfl,run_takeDeferred mk2,?_⟩⟩⟩;have hrow5:=ownsRow_putObj (ownsRow_putObj hv (.deferred none) hK2 rfl) (.deferred none) mk2 rfl;have hB5:Below n₀ w ((W.putObj D2 (.deferred none)).putObj D (.deferred none)):=(hB.trans (belowK_b (w:=W4) (by omega) W D2 _ _ (by omega) hK2 rfl rfl)).trans (belowK_b (w:=W0) (by omega) _ D _ _ (by omega) mk2 rfl rfl);refine ⟨.tuple #[v,.int .i64 0],by simp [results,Tryz.results98,go_sem],⟨v,rfl,?_,?_⟩⟩
    ·rw [hn₀,HWR.out];exact hrow5
    ·rw [hn₀];exact hB5
   case stop2 =>
    rintro D c pre W _ _ h _;exact h.elim
 case stop =>
  rintro D c pre W _ _ h _;exact h.elim
theorem write_bad (v:Value) (l:List Bl.R) (at_:Int) (d:ByteArray) (w:World) (hv:FieldsAt w.heap.size w v l) (hok:okFields l) (hd:d.size<=maxLen) (he:Bl.wErr l at_ d≠0) :
  Calls Tryz.prog 98 #[v,.int .i64 at_,.string d] w fun e w'=>e = .returned (.tuple #[.slice none 0 0,.int .i64 (Bl.wErr l at_ d)])/\Bw w w':=by
 have HV:Hid _:=hv;obtain ⟨ao,cap,rfl,hm,_⟩:=hv.open;clear hv;unfold maxLen at hd
 by_cases hr:Bl.right (-1) l
 ·have HE:Hid (Bl.err l = 0):=by show Bl.err l = 0;unfold Bl.err;rw [if_pos hr]
  by_cases h0:at_ < 0
  ·have H:Hid (Bl.wErr l at_ d = 1):=by show Bl.wErr l at_ d = 1;unfold Bl.wErr;rw [if_pos hr,if_pos h0]
   rw [H.out];clear he;go_enter Tryz.func98,Tryz.ntmps98;go_wp2_with fail;refine (check_any _ l _ HV.out hok).mono ?_;rintro e w1 ⟨rfl,hb1⟩;rw [HE.out];go_wp2
   go_ret2
   exact ⟨rfl,hb1⟩
  ·by_cases h1:1048576 - (d.size:Int) < at_
   ·have H:Hid (Bl.wErr l at_ d = 408):=by show Bl.wErr l at_ d = 408;unfold Bl.wErr;rw [if_pos hr,if_neg h0,if_pos h1]
    rw [H.out];clear he;go_enter Tryz.func98,Tryz.ntmps98;go_wp2_with fail;refine (check_any _ l _ HV.out hok).mono ?_;rintro e w1 ⟨rfl,hb1⟩;rw [HE.out];go_wp2
    go_ret2
    exact ⟨rfl,hb1⟩
   ·exact absurd (by unfold Bl.wErr;rw [if_pos hr,if_neg h0,if_neg h1]) he
 ·have HE:Hid (Bl.err l = 80):=by show Bl.err l = 80;unfold Bl.err;rw [if_neg hr]
  have H:Hid (Bl.wErr l at_ d = 80):=by show Bl.wErr l at_ d = 80;unfold Bl.wErr;rw [if_neg hr]
  rw [H.out];clear he;go_enter Tryz.func98,Tryz.ntmps98;go_wp2_with fail;refine (check_any _ l _ HV.out hok).mono ?_;rintro e w1 ⟨rfl,hb1⟩;rw [HE.out];go_wp2
  go_ret2
  exact ⟨rfl,hb1⟩
theorem Bl.wErr_ok {l:List Bl.R} {at_:Int} {d:ByteArray} (h:Bl.wErr l at_ d = 0):Bl.right (-1) l/\0<=at_/\at_ + (d.size:Int)<=1048576:=by
 unfold Bl.wErr at h;split at h
 ·split at h
  ·cases h
  ·split at h
   ·cases h
   ·exact ⟨‹_›,by omega,by omega⟩
 ·cases h
theorem write_any (v:Value) (l:List Bl.R) (at_:Int) (d:ByteArray) (w:World) (hv:FieldsAt w.heap.size w v l) (hok:okFields l) (hd:d.size<=maxLen) :
  Calls Tryz.prog 98 #[v,.int .i64 at_,.string d] w fun e w'=>∃ r,e = .returned (.tuple #[r,.int .i64 (Bl.wErr l at_ d)])/\w'.ownsRow w.heap.size 60 2 r (Bl.wOut l at_ d).length (cellsOf (Bl.wOut l at_ d))/\Bw w w':=by
 by_cases he:Bl.wErr l at_ d = 0
 ·obtain ⟨h1,h2,h3⟩:=Bl.wErr_ok he;have ho:Bl.wOut l at_ d = Bl.write l at_ d:=by unfold Bl.wOut;rw [if_pos he]
  rw [he,ho];exact write_ok v l at_ d w hv hok h1 h2 h3
 ·have ho:Bl.wOut l at_ d = []:=by unfold Bl.wOut;rw [if_neg he]
  rw [ho];exact (write_bad v l at_ d w hv hok hd he).mono fun e w' ⟨h1,h2⟩=>⟨_,h1,World.ownsRow_nil _ _ _ _,h2⟩
end Go.Proofs.YtneojimodomohaaGreat.Bs
namespace Go.Proofs.YtneojimodomohaaGreat.Bs
open Go.ChangeShapes Go.WideShapes Go.ChangeAt Go.RowKit Go.Deep
namespace Bl
def endOf (l:List R):Int:=if right (-1) l then lastEnd 0 l else 0
theorem lastEnd_ne {l:List R} (h:l≠[]) (a b:Int):lastEnd a l = lastEnd b l:=by
  cases l with
  | nil=>exact absurd rfl h
  | cons r l=>rfl
end Bl
theorem End_any (v : Value) (l : List Bl.R) (w : World) (hv : FieldsAt w.heap.size w v l) (hok : okFields l) :
    Calls Tryz.prog 100 #[v] w fun e w'=>e = .returned (.int .i64 (Bl.endOf l))/\Bw w w':=by
  have HV:Hid (FieldsAt w.heap.size w v l):=hv;obtain ⟨ao,cap,rfl,hm,hx⟩:=hv.open;clear hv;unfold maxLen at hm
  by_cases hz:l = []
  · subst hz
    have H:Hid (Bl.endOf [] = 0):=by show Bl.endOf [] = 0;unfold Bl.endOf;split <;> rfl
    rw [H.out];go_enter Tryz.func100,Tryz.ntmps100;go_wp2;go_ret;exact ⟨rfl,Below.refl _ _⟩
  · have hp : 0 < l.length := List.length_pos_iff.2 hz
    by_cases hr:Bl.right (-1) l
    · obtain ⟨b, off, rfl, hB, c0, c1⟩ := hx (l.length - 1) (by omega)
      have HE:Hid (Bl.err l = 0):=by show Bl.err l = 0;unfold Bl.err;rw [if_pos hr]
      obtain ⟨x,hxk⟩:=qE (l.getD (l.length - 1) (0,.empty));have hmem:x∈l:=by rw [← hxk];simp [List.getD,List.getElem?_eq_getElem (show l.length - 1 < l.length by omega)]
      obtain ⟨q0,q1,q2⟩:=Bl.right_mem hr _ hmem;have H:Hid (Bl.endOf l = x.1 + x.2.size):=by
        show Bl.endOf l = _;have h:=Bl.lastEnd_succ (l:=l) (k:=l.length - 1) (by omega) hxk;rw [show l.length - 1 + 1 = l.length by omega,List.take_length] at h;unfold Bl.endOf;rw [if_pos hr,Bl.lastEnd_ne hz 0 (-1),h]
      rw [hxk] at c0 c1;obtain ⟨xa,xs⟩:=x;unfold Bl.rend at q2;simp only at c0 c1 q0 q1 q2 H;replace q2:xa + (xs.size:Int)<=1048576:=q2;obtain ⟨n,hn⟩:=qE (l.length - 1);have hln:l.length = n + 1:=by omega
      rw [hn] at c0 c1;rw [hln] at HV hm ⊢;rw [H.out];have HO:Hid (okFields l):=hok;have hnn:((n + 1:Nat):Int) - 1 = (n:Int):=by omega
      clear hxk hmem hx hp hz hn hln hok;go_enter Tryz.func100,Tryz.ntmps100;go_wp2_with fail;refine (check_any _ l _ HV.out HO.out).mono ?_;rintro e w1 ⟨rfl,hb1⟩;rw [HE.out];rw [← hb1.cell (p:=⟨b,off + n * 2,none⟩) hB] at c0;rw [← hb1.cell (p:=⟨b,off + n * 2 + 1,none⟩) hB] at c1;go_wp2_with fail;refine (end_any xa xs _ (by omega) (by omega)).mono ?_;rintro e w2 ⟨rfl,rfl⟩;go_wp2;go_ret;exact ⟨rfl,hb1.alloc hb1.size _⟩
    · have HE : Hid (Bl.err l = 80) := by show Bl.err l = 80; unfold Bl.err; rw [if_neg hr]
      have H:Hid (Bl.endOf l = 0):=by show Bl.endOf l = 0;unfold Bl.endOf;rw [if_neg hr]
      rw [H.out];have hp':((l.length:Int) == 0) = false:=beq_eq_false_iff_ne.2 (by omega);clear hz;go_enter Tryz.func100,Tryz.ntmps100;go_wp2_with fail;refine (check_any _ l _ HV.out hok).mono ?_;rintro e w1 ⟨rfl,hb1⟩;rw [HE.out];go_wp2;go_ret;exact ⟨rfl,hb1⟩
end Go.Proofs.YtneojimodomohaaGreat.Bs
