/- Sp16, Sp17, PlainS, Sp18, as one. -/
import Derived.Test.YtneojimodomohaaGreatV14
set_option maxHeartbeats 8000000
set_option maxRecDepth 100000
namespace Go.Proofs.YtneojimodomohaaGreat
section
open Go.ChangeShapes Go.WideShapes Go.ChangeAt Go.RowKit Go.Deep It
theorem srmdir_any {C:List Ino->Int} (hC:ChkSaid C) (hM:Sp.ChkMeans C) {S:Nat->Prop} (v:Value) (L:List Rw) (a b:Int) (s:ByteArray) (st:Int) (w:World) (hv:TabAt S w v L) (hok:Sp.okN L) (hs:s.size<=maxLen) :
  Calls Tryz.prog 107 #[v,.agg #[.int .i64 a,.int .i64 b],.string s,.int .i64 st] w fun e w' =>
   ∃ u L',e = .returned (.tuple #[u,.int .i64 (Sp.rmE C (pl L) a b s st)])/\TabAt (fun b=>w.heap.size<=b) w' u L'/\pl L' = Sp.rmT C (pl L) a b s st/\Bw w w':=by
 obtain ⟨W,hW⟩:=qF (w.alloc (BH a b));have HB0:Hid _:=qB hW;have HA0:Hid _:=qC hW;have hws:w.heap.size < W.heap.size:=by rw [hW];simp
 have HV:Hid _:=hv.up HB0.out;have HVW:Hid (∀ V,Bw w V->TabAt S V v L):=fun V h=>hv.up h
 obtain ⟨ao,cap,rfl,hm,hx⟩:=hv.open;have HOK:Hid _:=hok;have HSM:Hid _:=hs;have HCC:Hid _:=hC;obtain ⟨q,hq⟩:=qE (Sp.toH C (pl L) st a b s);obtain ⟨te,hte⟩:=qE (Sp.toErr C (pl L) st a b s);have HTE:Hid (Sp.toH C (pl L) st a b s = q/\Sp.toErr C (pl L) st a b s = te):=⟨hq,hte⟩;clear hv hok hs hC
 by_cases hz:te = 0
 ·subst hz;obtain ⟨kc,xc,j,en,kt,xt,rfl,hxc,hgc,hkc,hfc,hff,hpl,hj,hqe,hkt,hkt0,hxt,hgt,hkt2,hlk,hft,hit,hic,hr,hst,hlen⟩:=Sp.to_zero hM hte;rw [hq] at hqe;subst hqe;obtain ⟨yc,hyc,rfl⟩:=Sp.pl_some hxc;obtain ⟨yt,hyt,rfl⟩:=Sp.pl_some hxt;have hst0:0<=st:=Int.le_trans (Sp.top_nonneg _) hst.1;obtain ⟨⟨bb,off,rfl,hB,hc8⟩,hgd⟩:=hx kt yt hyt;have HX8:Hid (∀ V,Bw w V->eight V bb (off + kt * 8) yt):=fun V h=>hc8.below h hB
  have HLEN:Hid _:=hgd.len.2;have hkl:(kt:Int) < (L.length:Int):=by have:=(qM hyt);omega
  have hE:Sp.rmE C (pl L) kc b s st = if yt.i.kind = 2 then (if yt.i.ents = [] then 0 else 406) else 404:=by
   unfold Sp.rmE;rw [hte,if_pos rfl,hq,hit]
  obtain ⟨en1,en2,en3,g⟩:=en;simp only at hq hkt hgt hft hit HTE;subst hkt;have hTn:∀ e,Sp.rmE C (pl L) kc b s st = e->e≠0->Sp.rmT C (pl L) kc b s st = []:=fun e h h0=>by unfold Sp.rmT;rw [if_neg (by rw [h];exact h0)]
  by_cases hk2:yt.i.kind = 2
  ·rw [if_pos hk2] at hE;have hkd:(yt.i.kind == 2) = true:=by simp [hk2]
   by_cases he0:yt.i.ents = []
   ·rw [if_pos he0] at hE;obtain ⟨hp1,hr1⟩:=Sp.less_right (s:=s) hr hxc hgc hkc hfc ⟨hst0,hst.2⟩ hlen;have hne:kc≠kt:=by
     intro h;subst h;rw [hxc] at hxt;rw [Option.some.inj hxt,he0] at hj;simp at hj
    have hf1:=Sp.find_set hr1 hxt hne hgt hkt2;have hT:Sp.rmT C (pl L) kc b s st = ((pl L).set kc (Sp.filled yc.i (yc.i.ents.eraseIdx (Fo.plc yc.i.ents yc.i.next s).toNat) yc.i.next st)).set kt (gone g):=by
     unfold Sp.rmT Sp.lessDir;rw [hE,if_pos rfl,hq,hic];rfl
    rw [hE,hT];obtain ⟨T1,hT1⟩:=qE ((pl L).set kc (Sp.filled yc.i (yc.i.ents.eraseIdx (Fo.plc yc.i.ents yc.i.next s).toNat) yc.i.next st));have HP:Hid _:=hp1.trans hT1;rw [hT1] at hf1 ⊢;have hlt1:kt < T1.length:=by rw [← hT1];simpa using (qM hyt)
    have HDR:Hid (dropErr T1 kt g = 0/\dropTab T1 kt g = T1.set kt (gone g)):=by
     have h:dropErr T1 kt g = 0:=by unfold dropErr;rw [if_pos hf1,if_neg (by omega)]
     refine ⟨h,?_⟩;unfold dropTab put;rw [if_pos h,show ((kt:Int)).toNat = kt by omega,if_pos hlt1]
    have HYC:Hid (L[kc]? = some yc/\(∀ e∈yc.i.ents,e.1.size<=maxLen)/\Fo.findErr yc.i.ents yc.i.next s = 0/\At.growErr yc.i.kind yc.i.links yc.i.size yc.i.stamp (yc.i.ents.eraseIdx (Fo.plc yc.i.ents yc.i.next s).toNat).length st = 0) :=
     ⟨hyc,HOK.out yc (List.mem_of_getElem? hyc),hff,Sp.grow_ok hr hxc (by omega) hst ⟨by omega,by have:=List.length_eraseIdx_le yc.i.ents (Fo.plc yc.i.ents yc.i.next s).toNat;omega⟩⟩
    have hen:yt.en = 0:=by rw [HLEN.out,he0];rfl
    have HEN:Hid _:=hen;rw [show yt.i.ents.length = 0 by rw [he0];rfl] at HLEN;have hen2:¬ ((0:Int) < (yt.en:Int)):=by omega
    clear hE hT hTn hM hte hq hx hc8 hgd hfc hft hr hst hxc hgc hkc hff hpl hj hic hlen hyc hyt hxt hgt hkt2 hlk hit hst0 he0 hp1 hr1 hf1 hT1 hlt1 hne hk2 hkt0 hen;go_enter Tryz.func107,Tryz.ntmps107;obtain ⟨⟨a0,a1⟩,_⟩:=two_of HA0.out;go_wp2_with fail;rw [← hW];refine (toChange_any HCC.out _ L kc b s st _ HV.out HOK.out HSM.out).mono ?_;rintro e w1 ⟨rfl,hb1⟩;rw [HTE.out.1,HTE.out.2];have HB1:=qJ HB0 hb1;obtain ⟨W1,hW1⟩:=qF (w1.alloc (BH kt g));have HBW:Hid (Bw w W1):=by show Bw w W1;rw [hW1];exact HB1.out.alloc HB1.out.size _
    have HAW:Hid (W1.heap[w.heap.size]? = some (BH kc b)/\W1.heap[w1.heap.size]? = some (BH kt g)):=by
     rw [hW1];exact ⟨(Below.heap_alloc _ _ _ (Nat.lt_of_lt_of_le hws hb1.size)).trans ((hb1.block _ hws).trans HA0.out),heap_alloc_new _ _⟩
    have hws1:w.heap.size < W1.heap.size:=(qL HAW.out.1);have hwt1:w1.heap.size < W1.heap.size:=(qL HAW.out.2);clear hb1 hW a0 a1;have hbw1:bb < w1.heap.size:=Nat.lt_of_lt_of_le hB HB1.out.size;obtain ⟨r0,r1,r2,r3,r4,r5,r6,r7⟩:=HX8.out _ HB1.out;go_wp2_with fail;rw [← hW1];refine (isDir_any yt _).mono ?_;rintro e w2 ⟨rfl,hw2⟩;rw [hkd];have hb2:Bw W1 w2:=by rw [hw2];exact qG _ _
    have HB2:=qJ HBW hb2;have HA2:Hid (w2.heap[w.heap.size]? = some (BH kc b)/\w2.heap[w1.heap.size]? = some (BH kt g)):=⟨(hb2.block _ hws1).trans HAW.out.1,(hb2.block _ hwt1).trans HAW.out.2⟩;clear hw2 hb2 r0 r1 r2 r3 r4 r5 r6 r7 hW1;obtain ⟨⟨t0,t1⟩,_⟩:=two_of HA2.out.2;obtain ⟨r0,r1,r2,r3,r4,r5,r6,r7⟩:=HX8.out _ HB2.out;have HSG:Hid (∀ w':World,Bw w2 w'->w'.cell? ⟨w.heap.size,0,none⟩ = some (.int .i64 kc)/\w'.cell? ⟨w.heap.size,1,none⟩ = some (.int .i64 b)/\w'.cell? ⟨w1.heap.size,0,none⟩ = some (.int .i64 kt)/\w'.cell? ⟨w1.heap.size,1,none⟩ = some (.int .i64 g)):=fun V h=>by
     obtain ⟨⟨a0,a1⟩,_⟩:=two_of HA2.out.1;obtain ⟨⟨t0,t1⟩,_⟩:=two_of HA2.out.2;exact ⟨cell_step a0 h,cell_step a1 h,cell_step t0 h,cell_step t1 h⟩
    have HREM:Hid (∀ V,Bw w2 V->Calls Tryz.prog 157 #[.slice (some ⟨bb,off,none⟩) L.length cap,.agg #[.int .i64 kc,.int .i64 b],.string s,.int .i64 st] V fun e w'=>∃ u L',e = .returned u/\TabAt (fun b=>V.heap.size<=b) w' u L'/\pl L' = T1/\Bw V w'):=fun V h=>(sremove_any _ L kc b st s yc V (HVW.out _ (HB2.out.trans (h.mono HB2.out.size))) HYC.out.1 HYC.out.2.1 HSM.out HYC.out.2.2.1 HYC.out.2.2.2).mono fun e w' ⟨u,L',h1,h2,h3,h4⟩=>⟨u,L',h1,h2,by rw [h3];exact HP.out,h4⟩
    go_wp2_with fail;clear t0 t1 r0 r1 r2 r3 r4 r5 r6 r7
    go_region_held3 (fun w'=>w'.cell? ⟨w.heap.size,0,none⟩ = some (.int .i64 kc)/\w'.cell? ⟨w.heap.size,1,none⟩ = some (.int .i64 b)/\w'.cell? ⟨w1.heap.size,0,none⟩ = some (.int .i64 kt)/\w'.cell? ⟨w1.heap.size,1,none⟩ = some (.int .i64 g)) (first | exact HSG.out _ (by (repeat (first | assumption | exact Below.refl _ _ | refine bel_drew ?_ | refine Below.setCell ?_ (by first | exact Nat.le_refl _ | assumption) _ | refine Below.alloc ?_ (by first | exact Nat.le_refl _ | assumption) _)))) (first
     | (go_at_call 157;refine (HREM.out _ (by (repeat (first | assumption | exact Below.refl _ _ | refine bel_drew ?_ | refine Below.setCell ?_ (by first | exact Nat.le_refl _ | assumption) _ | refine Below.alloc ?_ (by first | exact Nat.le_refl _ | assumption) _)))).mono ?_;rintro e w3 ⟨u3,L3,rfl,ht3,hp3,hb3⟩;have hb33:Bw w2 w3:=undrew hb3;clear hb3)
     | (go_at_call 158;refine (drop_any _ L3 kt g _ ht3).mono ?_;rintro e w4 ⟨u4,L4,rfl,ht4,hp4,hb4⟩;have hb44:Bw w2 w4:=hb33.trans (hb4.mono hb33.size)))
    all_goals
     rw [hp3] at hp4;rw [HDR.out.1];rw [HDR.out.2] at hp4;have HB4:=qJ HB2 hb44;have hw3:w.heap.size<=w3.heap.size:=Nat.le_trans HB2.out.size hb33.size;have HT4:Hid (TabAt (fun b=>w.heap.size<=b) w4 u4 L4):=⟨ht4.1.imp fun _ h _=>Nat.le_trans hw3 h,fun y hy=>(ht4.2 y hy).imp fun _ h _=>Nat.le_trans hw3 h⟩;have HP4:Hid _:=hp4;clear ht4 hp4 hb4 ht3 hp3;go_wp2
     (try simp only [Exit.inBlock,Exit.then])
     refine bodyPost_ret (v:=.tuple #[u4,.int .i64 0]) (by simp [results,Tryz.results107,go_sem]) rfl ?_
     first
      | exact ⟨u4,rfl,L4,HT4.out,HP4.out,HB4.out⟩
      | exact ⟨u4,L4,rfl,HT4.out,HP4.out,HB4.out⟩
   ·rw [if_neg he0] at hE;rw [hE,hTn _ hE (by decide)];have hen:0 < yt.en:=by rw [HLEN.out];exact List.length_pos_iff.2 he0
    have hen2:((0:Int) < (yt.en:Int)):=by omega
    clear hE hTn hM hte hq hx hc8 hgd hfc hft hr hst hxc hgc hkc hff hpl hj hic hlen hyc hyt hxt hgt hkt2 hlk hit hst0 he0 hk2 hkt0;go_enter Tryz.func107,Tryz.ntmps107;obtain ⟨⟨a0,a1⟩,_⟩:=two_of HA0.out;go_wp2_with fail;rw [← hW];refine (toChange_any HCC.out _ L kc b s st _ HV.out HOK.out HSM.out).mono ?_;rintro e w1 ⟨rfl,hb1⟩;rw [HTE.out.1,HTE.out.2];have HB1:=qJ HB0 hb1;obtain ⟨W1,hW1⟩:=qF (w1.alloc (BH kt g));have HBW:Hid (Bw w W1):=by show Bw w W1;rw [hW1];exact HB1.out.alloc HB1.out.size _
    have HAW:Hid (W1.heap[w.heap.size]? = some (BH kc b)/\W1.heap[w1.heap.size]? = some (BH kt g)):=by
     rw [hW1];exact ⟨(Below.heap_alloc _ _ _ (Nat.lt_of_lt_of_le hws hb1.size)).trans ((hb1.block _ hws).trans HA0.out),heap_alloc_new _ _⟩
    have hws1:w.heap.size < W1.heap.size:=(qL HAW.out.1);have hwt1:w1.heap.size < W1.heap.size:=(qL HAW.out.2);clear hb1 hW a0 a1;have hbw1:bb < w1.heap.size:=Nat.lt_of_lt_of_le hB HB1.out.size;obtain ⟨r0,r1,r2,r3,r4,r5,r6,r7⟩:=HX8.out _ HB1.out;go_wp2_with fail;rw [← hW1];refine (isDir_any yt _).mono ?_;rintro e w2 ⟨rfl,hw2⟩;rw [hkd];have hb2:Bw W1 w2:=by rw [hw2];exact qG _ _
    have HB2:=qJ HBW hb2;have HA2:Hid (w2.heap[w.heap.size]? = some (BH kc b)/\w2.heap[w1.heap.size]? = some (BH kt g)):=⟨(hb2.block _ hws1).trans HAW.out.1,(hb2.block _ hwt1).trans HAW.out.2⟩;clear hw2 hb2 r0 r1 r2 r3 r4 r5 r6 r7 hW1;obtain ⟨⟨t0,t1⟩,_⟩:=two_of HA2.out.2;obtain ⟨r0,r1,r2,r3,r4,r5,r6,r7⟩:=HX8.out _ HB2.out;go_wp2
    (try simp only [Exit.inBlock,Exit.then])
    refine bodyPost_ret (v:=.tuple #[.slice none 0 0,.int .i64 406]) (by simp [results,Tryz.results107,go_sem]) rfl ?_
    first
     | exact ⟨_,rfl,[],tab_nil _ _,rfl,HB2.out⟩
     | exact ⟨_,[],rfl,tab_nil _ _,rfl,HB2.out⟩
  ·rw [if_neg hk2] at hE;rw [hE,hTn _ hE (by decide)];have hkd:(yt.i.kind == 2) = false:=beq_eq_false_iff_ne.2 hk2;clear hE hTn hM hte hq hx hc8 hgd hfc hft hr hst hxc hgc hkc hff hpl hj hic hlen hyc hyt hxt hgt hkt2 hlk hit hst0 hk2 hkt0;go_enter Tryz.func107,Tryz.ntmps107;obtain ⟨⟨a0,a1⟩,_⟩:=two_of HA0.out;go_wp2_with fail;rw [← hW];refine (toChange_any HCC.out _ L kc b s st _ HV.out HOK.out HSM.out).mono ?_;rintro e w1 ⟨rfl,hb1⟩;rw [HTE.out.1,HTE.out.2];have HB1:=qJ HB0 hb1;obtain ⟨W1,hW1⟩:=qF (w1.alloc (BH kt g));have HBW:Hid (Bw w W1):=by show Bw w W1;rw [hW1];exact HB1.out.alloc HB1.out.size _
   have HAW:Hid (W1.heap[w.heap.size]? = some (BH kc b)/\W1.heap[w1.heap.size]? = some (BH kt g)):=by
    rw [hW1];exact ⟨(Below.heap_alloc _ _ _ (Nat.lt_of_lt_of_le hws hb1.size)).trans ((hb1.block _ hws).trans HA0.out),heap_alloc_new _ _⟩
   have hws1:w.heap.size < W1.heap.size:=(qL HAW.out.1);have hwt1:w1.heap.size < W1.heap.size:=(qL HAW.out.2);clear hb1 hW a0 a1;have hbw1:bb < w1.heap.size:=Nat.lt_of_lt_of_le hB HB1.out.size;obtain ⟨r0,r1,r2,r3,r4,r5,r6,r7⟩:=HX8.out _ HB1.out;go_wp2_with fail;rw [← hW1];refine (isDir_any yt _).mono ?_;rintro e w2 ⟨rfl,hw2⟩;rw [hkd];have hb2:Bw W1 w2:=by rw [hw2];exact qG _ _
   have HB2:=qJ HBW hb2;have HA2:Hid (w2.heap[w.heap.size]? = some (BH kc b)/\w2.heap[w1.heap.size]? = some (BH kt g)):=⟨(hb2.block _ hws1).trans HAW.out.1,(hb2.block _ hwt1).trans HAW.out.2⟩;clear hw2 hb2 r0 r1 r2 r3 r4 r5 r6 r7 hW1;go_wp2
   (try simp only [Exit.inBlock,Exit.then])
   refine bodyPost_ret (v:=.tuple #[.slice none 0 0,.int .i64 404]) (by simp [results,Tryz.results107,go_sem]) rfl ?_
   first
    | exact ⟨_,rfl,[],tab_nil _ _,rfl,HB2.out⟩
    | exact ⟨_,[],rfl,tab_nil _ _,rfl,HB2.out⟩
 ·have hE:Sp.rmE C (pl L) a b s st = te:=by unfold Sp.rmE;rw [if_neg (by rw [hte];exact hz),hte]
  have hT:Sp.rmT C (pl L) a b s st = []:=by unfold Sp.rmT;rw [if_neg (by rw [hE];exact hz)]
  rw [hE,hT];have hz':(te != 0) = true:=by simpa using hz
  clear hz hE hT hte hM hx;go_enter Tryz.func107,Tryz.ntmps107;obtain ⟨⟨a0,a1⟩,_⟩:=two_of HA0.out;go_wp2_with fail;rw [← hW];refine (toChange_any HCC.out _ L a b s st _ HV.out HOK.out HSM.out).mono ?_;rintro e w1 ⟨rfl,hb1⟩;rw [HTE.out.1,HTE.out.2];have HB1:=qJ HB0 hb1;clear hb1 hW a0 a1;go_wp2
  (try simp only [Exit.inBlock,Exit.then])
  refine bodyPost_ret (v:=.tuple #[.slice none 0 0,.int .i64 te]) (by simp [results,Tryz.results107,go_sem]) rfl ?_
  first
   | exact ⟨_,rfl,[],tab_nil _ _,rfl,HB1.out.alloc HB1.out.size _⟩
   | exact ⟨_,[],rfl,tab_nil _ _,rfl,HB1.out.alloc HB1.out.size _⟩
namespace Sp
noncomputable def ulE (C:List Ino->Int) (L:List Ino) (a b:Int) (s:ByteArray) (st:Int):Int :=
 if toErr C L st a b s = 0 then (if (findI L (toH C L st a b s).1 (toH C L st a b s).2).kind = 2 then 405 else 0) else toErr C L st a b s
noncomputable def ulT (C:List Ino->Int) (L:List Ino) (a b:Int) (s:ByteArray) (st:Int):List Ino :=
 if ulE C L a b s st = 0 then (lessDir L a b s st).set (toH C L st a b s).1.toNat (linked (findI L (toH C L st a b s).1 (toH C L st a b s).2) (-1) st) else []
noncomputable def ulH (C:List Ino->Int) (L:List Ino) (a b:Int) (s:ByteArray) (st:Int):Int × Int:=if ulE C L a b s st = 0 then toH C L st a b s else (0,0)
end Sp
theorem four_set {A B:Nat} {a b c d:Int} {w:World} (h:w.cell? ⟨A,0,none⟩ = some (.int .i64 a)/\w.cell? ⟨A,1,none⟩ = some (.int .i64 b)/\w.cell? ⟨B,0,none⟩ = some (.int .i64 c)/\w.cell? ⟨B,1,none⟩ = some (.int .i64 d)) {p:Addr} (h1:A≠p.block) (h2:B≠p.block) (u:Value) :
  (w.setCell p u).cell? ⟨A,0,none⟩ = some (.int .i64 a)/\(w.setCell p u).cell? ⟨A,1,none⟩ = some (.int .i64 b)/\(w.setCell p u).cell? ⟨B,0,none⟩ = some (.int .i64 c)/\(w.setCell p u).cell? ⟨B,1,none⟩ = some (.int .i64 d) :=
 ⟨(cell_block (Below.heap_setCell _ _ _ _ h1)).trans h.1,(cell_block (Below.heap_setCell _ _ _ _ h1)).trans h.2.1,(cell_block (Below.heap_setCell _ _ _ _ h2)).trans h.2.2.1,(cell_block (Below.heap_setCell _ _ _ _ h2)).trans h.2.2.2⟩
theorem sunlink_any {C:List Ino->Int} (hC:ChkSaid C) (hM:Sp.ChkMeans C) {S:Nat->Prop} (v:Value) (L:List Rw) (a b:Int) (s:ByteArray) (st:Int) (w:World) (hv:TabAt S w v L) (hok:Sp.okN L) (hs:s.size<=maxLen) :
  Calls Tryz.prog 105 #[v,.agg #[.int .i64 a,.int .i64 b],.string s,.int .i64 st] w fun e w' =>
   ∃ u L',e = .returned (.tuple #[u,.agg #[.int .i64 (Sp.ulH C (pl L) a b s st).1,.int .i64 (Sp.ulH C (pl L) a b s st).2],.int .i64 (Sp.ulE C (pl L) a b s st)])/\TabAt (fun b=>w.heap.size<=b) w' u L'/\pl L' = Sp.ulT C (pl L) a b s st/\Bw w w':=by
 obtain ⟨W,hW⟩:=qF ((w.alloc (BH a b)).alloc (BH 0 0));have HB0:Hid (Bw w W):=by show Bw w W;rw [hW];exact (qG _ _).alloc (by simp) _
 have HA0:Hid (W.heap[w.heap.size]? = some (BH a b)):=by show W.heap[w.heap.size]? = _;rw [hW];exact (Below.heap_alloc _ _ _ (by simp)).trans (heap_alloc_new _ _)
 have HZ0:Hid (W.heap[w.heap.size + 1]? = some (BH 0 0)):=by
  show W.heap[w.heap.size + 1]? = _;rw [hW];have:=heap_alloc_new (w.alloc (BH a b)) (BH 0 0)
  rwa [show (w.alloc (BH a b)).heap.size = w.heap.size + 1 by simp] at this
 have hwz:w.heap.size + 1 < W.heap.size:=by rw [hW];simp
 have hws:w.heap.size < W.heap.size:=by omega
 have HV:Hid _:=hv.up HB0.out;have HVW:Hid (∀ V,Bw w V->TabAt S V v L):=fun V h=>hv.up h
 obtain ⟨ao,cap,rfl,hm,hx⟩:=hv.open;have HOK:Hid _:=hok;have HSM:Hid _:=hs;have HCC:Hid _:=hC;obtain ⟨q,hq⟩:=qE (Sp.toH C (pl L) st a b s);obtain ⟨te,hte⟩:=qE (Sp.toErr C (pl L) st a b s);have HTE:Hid (Sp.toH C (pl L) st a b s = q/\Sp.toErr C (pl L) st a b s = te):=⟨hq,hte⟩;clear hv hok hs hC
 by_cases hz:te = 0
 ·subst hz;obtain ⟨kc,xc,j,en,kt,xt,rfl,hxc,hgc,hkc,hfc,hff,hpl,hj,hqe,hkt,hkt0,hxt,hgt,hkt2,hlk,hft,hit,hic,hr,hst,hlen⟩:=Sp.to_zero hM hte;rw [hq] at hqe;subst hqe;obtain ⟨yc,hyc,rfl⟩:=Sp.pl_some hxc;obtain ⟨yt,hyt,rfl⟩:=Sp.pl_some hxt;have hst0:0<=st:=Int.le_trans (Sp.top_nonneg _) hst.1;obtain ⟨⟨bb,off,rfl,hB,hc8⟩,hgd⟩:=hx kt yt hyt;have HX8:Hid (∀ V,Bw w V->eight V bb (off + kt * 8) yt):=fun V h=>hc8.below h hB
  have HLEN:Hid _:=hgd.len.2;have hkl:(kt:Int) < (L.length:Int):=by have:=(qM hyt);omega
  have hE:Sp.ulE C (pl L) kc b s st = if yt.i.kind = 2 then 405 else 0:=by
   unfold Sp.ulE;rw [hte,if_pos rfl,hq,hit]
  obtain ⟨en1,en2,en3,g⟩:=en;simp only at hq hkt hgt hft hit HTE;subst hkt;have hTn:∀ e,Sp.ulE C (pl L) kc b s st = e->e≠0->Sp.ulT C (pl L) kc b s st = []:=fun e h h0=>by unfold Sp.ulT;rw [if_neg (by rw [h];exact h0)]
  have hHn:∀ e,Sp.ulE C (pl L) kc b s st = e->e≠0->Sp.ulH C (pl L) kc b s st = (0,0):=fun e h h0=>by unfold Sp.ulH;rw [if_neg (by rw [h];exact h0)]
  by_cases hk2:yt.i.kind = 2
  ·rw [if_pos hk2] at hE;have hkd:(yt.i.kind == 2) = true:=by simp [hk2]
   rw [hTn _ hE (by decide),hHn _ hE (by decide),hE];clear hE hTn hHn hM hte hq hx hc8 hgd hfc hft hr hst hxc hgc hkc hff hpl hj hic hlen hyc hyt hxt hgt hkt2 hlk hit hst0 hk2 hkt0;go_enter Tryz.func105,Tryz.ntmps105;obtain ⟨⟨a0,a1⟩,_⟩:=two_of HA0.out;go_wp2_with fail;rw [← hW];refine (toChange_any HCC.out _ L kc b s st _ HV.out HOK.out HSM.out).mono ?_;rintro e w1 ⟨rfl,hb1⟩;rw [HTE.out.1,HTE.out.2];have HB1:=qJ HB0 hb1;have HZ1:Hid _:=(hb1.block _ hwz).trans HZ0.out;have hwz1:w.heap.size + 1 < w1.heap.size:=(qL HZ1.out);obtain ⟨W1,hW1⟩:=qF (w1.alloc (BH kt g));have HBW:Hid (Bw w W1):=by show Bw w W1;rw [hW1];exact HB1.out.alloc HB1.out.size _
   have HAW:Hid (W1.heap[w.heap.size]? = some (BH kc b)/\W1.heap[w1.heap.size]? = some (BH kt g)/\W1.heap[w.heap.size + 1]? = some (BH 0 0)):=by
    rw [hW1];exact ⟨(Below.heap_alloc _ _ _ (Nat.lt_of_lt_of_le hws hb1.size)).trans ((hb1.block _ hws).trans HA0.out),heap_alloc_new _ _,(Below.heap_alloc _ _ _ hwz1).trans HZ1.out⟩
   have hws1:w.heap.size < W1.heap.size:=(qL HAW.out.1);have hwt1:w1.heap.size < W1.heap.size:=(qL HAW.out.2.1);have hwy1:w.heap.size + 1 < W1.heap.size:=(qL HAW.out.2.2);clear hb1 hW a0 a1;have hbw1:bb < w1.heap.size:=Nat.lt_of_lt_of_le hB HB1.out.size;obtain ⟨r0,r1,r2,r3,r4,r5,r6,r7⟩:=HX8.out _ HB1.out;go_wp2_with fail;rw [← hW1];refine (isDir_any yt _).mono ?_;rintro e w2 ⟨rfl,hw2⟩;rw [hkd];have hb2:Bw W1 w2:=by rw [hw2];exact qG _ _
   have HB2:=qJ HBW hb2;have HA2:Hid (w2.heap[w.heap.size]? = some (BH kc b)/\w2.heap[w1.heap.size]? = some (BH kt g)):=⟨(hb2.block _ hws1).trans HAW.out.1,(hb2.block _ hwt1).trans HAW.out.2.1⟩;have HZ2:Hid _:=(hb2.block _ hwy1).trans HAW.out.2.2;have hwz2:w.heap.size + 1 < w2.heap.size:=(qL HZ2.out);clear hw2 hb2 r0 r1 r2 r3 r4 r5 r6 r7 hW1;obtain ⟨⟨z0,z1⟩,zf⟩:=two_of HZ2.out;go_wp2
   (try simp only [Exit.inBlock,Exit.then])
   refine bodyPost_ret (v:=.tuple #[.slice none 0 0,.agg #[.int .i64 0,.int .i64 0],.int .i64 405]) ?_ rfl ?_
   ·rw [results_tct rfl]
    go_simp
   ·have hbe:=HB2.out;have hbs:=hbe.size
    first
     | exact ⟨_,rfl,[],tab_nil _ _,rfl,by repeat (first | exact hbe | refine Below.setCell ?_ (by simp) _ | refine Below.alloc ?_ (by simp;omega) _)⟩
     | exact ⟨_,[],rfl,tab_nil _ _,rfl,by repeat (first | exact hbe | refine Below.setCell ?_ (by simp) _ | refine Below.alloc ?_ (by simp;omega) _)⟩
  ·rw [if_neg hk2] at hE;have hkd:(yt.i.kind == 2) = false:=beq_eq_false_iff_ne.2 hk2;obtain ⟨hp1,hr1⟩:=Sp.less_right (s:=s) hr hxc hgc hkc hfc ⟨hst0,hst.2⟩ hlen;have hap:=At.right_iff.1 (Sp.attr_of hr (List.mem_of_getElem? hxt));unfold At.rightP at hap;have hk1:yt.i.kind = 1:=by omega
   have hne:kc≠kt:=by
    intro h;subst h;rw [hxc] at hxt;rw [Option.some.inj hxt] at hkc;omega
   have hf1:=Sp.find_set hr1 hxt hne hgt hkt2;have hH:Sp.ulH C (pl L) kc b s st = ((kt:Int),g):=by unfold Sp.ulH;rw [hE,if_pos rfl,hq]
   have hT:Sp.ulT C (pl L) kc b s st = ((pl L).set kc (Sp.filled yc.i (yc.i.ents.eraseIdx (Fo.plc yc.i.ents yc.i.next s).toNat) yc.i.next st)).set kt (Sp.linked yt.i (-1) st):=by
    unfold Sp.ulT Sp.lessDir;rw [hE,if_pos rfl,hq,hic,hit];rfl
   rw [hE,hT,hH];obtain ⟨T1,hT1⟩:=qE ((pl L).set kc (Sp.filled yc.i (yc.i.ents.eraseIdx (Fo.plc yc.i.ents yc.i.next s).toNat) yc.i.next st));have HP:Hid _:=hp1.trans hT1;have hx1:T1[kt]? = some yt.i:=by rw [← hT1,List.getElem?_set_ne hne];exact hxt
   rw [hT1] at hf1 ⊢;have HX1:Hid _:=hx1;have hone:=(It.right_iff.1 hr).2.2 yt.i (List.mem_of_getElem? hxt);have HQ:Hid _:=(Sp.putTab_set (y:=Sp.linked yt.i (-1) st) hf1 hx1 hgt hkt2 (Sp.one_linked hone hk1 ⟨hst0,hst.2⟩ (by omega)) rfl).2;have HLK:Hid _:=Sp.link_ok hr hxt hk1 hst (.inr ⟨rfl,by omega⟩);have HYC:Hid (L[kc]? = some yc/\(∀ e∈yc.i.ents,e.1.size<=maxLen)/\Fo.findErr yc.i.ents yc.i.next s = 0/\At.growErr yc.i.kind yc.i.links yc.i.size yc.i.stamp (yc.i.ents.eraseIdx (Fo.plc yc.i.ents yc.i.next s).toNat).length st = 0) :=
    ⟨hyc,HOK.out yc (List.mem_of_getElem? hyc),hff,Sp.grow_ok hr hxc (by omega) hst ⟨by omega,by have:=List.length_eraseIdx_le yc.i.ents (Fo.plc yc.i.ents yc.i.next s).toNat;omega⟩⟩
   clear hE hTn hHn hM hte hq hx hc8 hgd hfc hft hr hst hxc hgc hkc hff hpl hj hic hlen hyc hyt hxt hgt hkt2 hlk hit hst0 hk2 hkt0 hT hH hp1 hr1 hf1 hT1 hne hap hk1 hx1 hone;go_enter Tryz.func105,Tryz.ntmps105;obtain ⟨⟨a0,a1⟩,_⟩:=two_of HA0.out;go_wp2_with fail;rw [← hW];refine (toChange_any HCC.out _ L kc b s st _ HV.out HOK.out HSM.out).mono ?_;rintro e w1 ⟨rfl,hb1⟩;rw [HTE.out.1,HTE.out.2];have HB1:=qJ HB0 hb1;have HZ1:Hid _:=(hb1.block _ hwz).trans HZ0.out;have hwz1:w.heap.size + 1 < w1.heap.size:=(qL HZ1.out);obtain ⟨W1,hW1⟩:=qF (w1.alloc (BH kt g));have HBW:Hid (Bw w W1):=by show Bw w W1;rw [hW1];exact HB1.out.alloc HB1.out.size _
   have HAW:Hid (W1.heap[w.heap.size]? = some (BH kc b)/\W1.heap[w1.heap.size]? = some (BH kt g)/\W1.heap[w.heap.size + 1]? = some (BH 0 0)):=by
    rw [hW1];exact ⟨(Below.heap_alloc _ _ _ (Nat.lt_of_lt_of_le hws hb1.size)).trans ((hb1.block _ hws).trans HA0.out),heap_alloc_new _ _,(Below.heap_alloc _ _ _ hwz1).trans HZ1.out⟩
   have hws1:w.heap.size < W1.heap.size:=(qL HAW.out.1);have hwt1:w1.heap.size < W1.heap.size:=(qL HAW.out.2.1);have hwy1:w.heap.size + 1 < W1.heap.size:=(qL HAW.out.2.2);clear hb1 hW a0 a1;have hbw1:bb < w1.heap.size:=Nat.lt_of_lt_of_le hB HB1.out.size;obtain ⟨r0,r1,r2,r3,r4,r5,r6,r7⟩:=HX8.out _ HB1.out;go_wp2_with fail;rw [← hW1];refine (isDir_any yt _).mono ?_;rintro e w2 ⟨rfl,hw2⟩;rw [hkd];have hb2:Bw W1 w2:=by rw [hw2];exact qG _ _
   have HB2:=qJ HBW hb2;have HA2:Hid (w2.heap[w.heap.size]? = some (BH kc b)/\w2.heap[w1.heap.size]? = some (BH kt g)):=⟨(hb2.block _ hws1).trans HAW.out.1,(hb2.block _ hwt1).trans HAW.out.2.1⟩;have HZ2:Hid _:=(hb2.block _ hwy1).trans HAW.out.2.2;have hwz2:w.heap.size + 1 < w2.heap.size:=(qL HZ2.out);clear hw2 hb2 r0 r1 r2 r3 r4 r5 r6 r7 hW1;have HSG:Hid (∀ w':World,Bw w2 w'->w'.cell? ⟨w.heap.size,0,none⟩ = some (.int .i64 kc)/\w'.cell? ⟨w.heap.size,1,none⟩ = some (.int .i64 b)/\w'.cell? ⟨w1.heap.size,0,none⟩ = some (.int .i64 kt)/\w'.cell? ⟨w1.heap.size,1,none⟩ = some (.int .i64 g)):=fun V h=>by
    obtain ⟨⟨a0,a1⟩,_⟩:=two_of HA2.out.1;obtain ⟨⟨t0,t1⟩,_⟩:=two_of HA2.out.2;exact ⟨cell_step a0 h,cell_step a1 h,cell_step t0 h,cell_step t1 h⟩
   have HREM:Hid (∀ V,Bw w2 V->Calls Tryz.prog 157 #[.slice (some ⟨bb,off,none⟩) L.length cap,.agg #[.int .i64 kc,.int .i64 b],.string s,.int .i64 st] V fun e w'=>∃ u L',e = .returned u/\TabAt (fun b=>V.heap.size<=b) w' u L'/\pl L' = T1/\Bw V w'):=fun V h=>(sremove_any _ L kc b st s yc V (HVW.out _ (HB2.out.trans (h.mono HB2.out.size))) HYC.out.1 HYC.out.2.1 HSM.out HYC.out.2.2.1 HYC.out.2.2.2).mono fun e w' ⟨u,L',h1,h2,h3,h4⟩=>⟨u,L',h1,h2,by rw [h3];exact HP.out,h4⟩
   have HCNT:Hid (∀ V u L1 (S:Nat->Prop),TabAt S V u L1->pl L1 = T1->Calls Tryz.prog 155 #[u,.agg #[.int .i64 kt,.int .i64 g],.int .i64 (-1),.int .i64 st] V fun e w'=>∃ u L',e = .returned u/\TabAt (fun b=>V.heap.size<=b) w' u L'/\pl L' = T1.set kt (Sp.linked yt.i (-1) st)/\Bw V w'):=fun V u L1 S h hp=>by
    obtain ⟨y1,hy1,hyi⟩:=Sp.pl_some (L:=L1) (k:=kt) (x:=yt.i) (by rw [hp];exact HX1.out);refine (count_any u L1 kt g (-1) st y1 V h hy1 (by rw [hyi];exact HLK.out)).mono fun e w' ⟨u,L',h1,h2,h3,h4⟩=>⟨u,L',h1,h2,?_,h4⟩
    rw [h3,hp,hyi];exact HQ.out
   have hn1:w.heap.size≠w.heap.size + 1:=by omega
   have hn2:w1.heap.size≠w.heap.size + 1:=by omega
   go_wp2_with fail
   go_region_held3 (fun w'=>w'.cell? ⟨w.heap.size,0,none⟩ = some (.int .i64 kc)/\w'.cell? ⟨w.heap.size,1,none⟩ = some (.int .i64 b)/\w'.cell? ⟨w1.heap.size,0,none⟩ = some (.int .i64 kt)/\w'.cell? ⟨w1.heap.size,1,none⟩ = some (.int .i64 g)) (first | exact four_set (four_set (HSG.out _ hb44) hn1 hn2 _) hn1 hn2 _ | exact four_set (HSG.out _ hb44) hn1 hn2 _ | exact HSG.out _ (by (repeat (first | assumption | exact Below.refl _ _ | refine bel_drew ?_ | refine Below.setCell ?_ (by first | exact Nat.le_refl _ | assumption) _ | refine Below.alloc ?_ (by first | exact Nat.le_refl _ | assumption) _)))) (first
    | (go_at_call 157;refine (HREM.out _ (by (repeat (first | assumption | exact Below.refl _ _ | refine bel_drew ?_ | refine Below.setCell ?_ (by first | exact Nat.le_refl _ | assumption) _ | refine Below.alloc ?_ (by first | exact Nat.le_refl _ | assumption) _)))).mono ?_;rintro e w3 ⟨u3,L3,rfl,ht3,hp3,hb3⟩;have hb33:Bw w2 w3:=undrew hb3;clear hb3)
    | (go_at_call 155;refine (HCNT.out _ _ L3 _ ht3 hp3).mono ?_;rintro e w4 ⟨u4,L4,rfl,ht4,hp4,hb4⟩;have hb44:Bw w2 w4:=hb33.trans (hb4.mono hb33.size);obtain ⟨⟨z0,z1⟩,zf⟩:=two_of ((hb44.block _ hwz2).trans HZ2.out)))
   all_goals
    have HB4:=qJ HB2 hb44;have hw3:w.heap.size + 1 < w3.heap.size:=Nat.lt_of_lt_of_le hwz2 hb33.size;have HT4:Hid _:=ht4;have HP4:Hid _:=hp4;clear ht4 hp4 hb4 ht3 hp3;go_wp2
    (try simp only [Exit.inBlock,Exit.then])
    refine bodyPost_ret (v:=.tuple #[u4,.agg #[.int .i64 kt,.int .i64 g],.int .i64 0]) ?_ rfl ?_
    ·rw [results_tct rfl]
     go_simp
    ·have hbe:=HB4.out;have hfin:TabAt (fun b=>w.heap.size<=b) ((w4.setCell ⟨w.heap.size + 1,0,none⟩ (.int .i64 kt)).setCell ⟨w.heap.size + 1,1,none⟩ (.int .i64 g)) u4 L4:=by
      refine ⟨?_,fun y hy=>?_⟩
      ·refine At.imp (S:=fun b=>w3.heap.size<=b) ?_ (fun b hb _=>by omega)
       repeat (refine At.setCell ?_ (by simp;omega) _)
       exact HT4.out.1
      ·refine Good.imp (S:=fun b=>w3.heap.size<=b) ?_ (fun b hb _=>by omega)
       repeat (refine Good.setCell ?_ (by simp;omega) _)
       exact HT4.out.2 y hy
     have hbf:Bw w ((w4.setCell ⟨w.heap.size + 1,0,none⟩ (.int .i64 kt)).setCell ⟨w.heap.size + 1,1,none⟩ (.int .i64 g)):=by
      repeat (first | exact hbe | refine Below.setCell ?_ (by simp) _)
     first
      | exact ⟨u4,rfl,L4,hfin,HP4.out,hbf⟩
      | exact ⟨u4,L4,rfl,hfin,HP4.out,hbf⟩
 ·have hE:Sp.ulE C (pl L) a b s st = te:=by unfold Sp.ulE;rw [if_neg (by rw [hte];exact hz),hte]
  have hT:Sp.ulT C (pl L) a b s st = []:=by unfold Sp.ulT;rw [if_neg (by rw [hE];exact hz)]
  have hH:Sp.ulH C (pl L) a b s st = (0,0):=by unfold Sp.ulH;rw [if_neg (by rw [hE];exact hz)]
  rw [hE,hT,hH];have hz':(te != 0) = true:=by simpa using hz
  clear hz hE hT hH hte hM hx;go_enter Tryz.func105,Tryz.ntmps105;obtain ⟨⟨a0,a1⟩,_⟩:=two_of HA0.out;go_wp2_with fail;rw [← hW];refine (toChange_any HCC.out _ L a b s st _ HV.out HOK.out HSM.out).mono ?_;rintro e w1 ⟨rfl,hb1⟩;rw [HTE.out.1,HTE.out.2];have HB1:=qJ HB0 hb1;have HZ1:Hid _:=(hb1.block _ hwz).trans HZ0.out;have hwz1:w.heap.size + 1 < w1.heap.size:=(qL HZ1.out);clear hb1 hW a0 a1;obtain ⟨⟨z0,z1⟩,zf⟩:=two_of HZ1.out;go_wp2
  (try simp only [Exit.inBlock,Exit.then])
  refine bodyPost_ret (v:=.tuple #[.slice none 0 0,.agg #[.int .i64 0,.int .i64 0],.int .i64 te]) ?_ rfl ?_
  ·rw [results_tct rfl]
   go_simp
  ·have hbe:=HB1.out;have hbs:=hbe.size
   first
    | exact ⟨_,rfl,[],tab_nil _ _,rfl,by repeat (first | exact hbe | refine Below.setCell ?_ (by simp) _ | refine Below.alloc ?_ (by simp;omega) _)⟩
    | exact ⟨_,[],rfl,tab_nil _ _,rfl,by repeat (first | exact hbe | refine Below.setCell ?_ (by simp) _ | refine Below.alloc ?_ (by simp;omega) _)⟩
end
section
namespace It
theorem rootB_get {L:List Ino} (h:rootB L = true):∃ x,L[0]? = some x/\x.kind = 2:=by
  cases L with
  | nil=>cases h
  | cons y l=>exact ⟨y,rfl,of_decide_eq_true h⟩
theorem rootB_of {L:List Ino} {x:Ino} (h:L[0]? = some x) (hk:x.kind = 2):rootB L = true:=by
  cases L with
  | nil=>simp at h
  | cons y l =>
    simp at h;subst h;exact decide_eq_true hk
theorem one_fresh {g k s:Int} (hg:1<=g/\g<=1099511627776) (hk:k = 1∨k = 2) (hs:0<=s/\s<=1099511627776):one (fresh g k s) = true:=by
  have hr:Bl.right (-1) []:=trivial;have he:Bl.endOf [] = 0:=by unfold Bl.endOf;rw [if_pos hr];rfl
  rcases hk with rfl | rfl
  · rw [fresh, one_file hg (At.right_iff.2 (.inr ⟨⟨by omega, by omega⟩, hs, .inl ⟨rfl, by omega, by omega⟩⟩)), he]
    simp [hr]
  · rw [fresh, one_dir hg (At.right_iff.2 (.inr ⟨⟨by omega, by omega⟩, hs, .inr ⟨rfl, rfl⟩⟩))]
    rfl
theorem put_at {L:List Ino} {no:Nat} {x:Ino} (h:no<=L.length) (j:Nat):(put L no x)[j]? = if j = no then some x else L[j]?:=by
  unfold put;split
  · rename_i hlt
    rw [List.getElem?_set]
    by_cases hj:no = j
    · subst hj
      simp [hlt]
    · rw [if_neg hj,if_neg (fun e=>hj e.symm)]
  · have : no = L.length := by omega
    subst this
    by_cases hj:j = L.length
    · subst hj
      simp
    · rw [if_neg hj]
      rcases Nat.lt_or_gt_of_ne hj with h1 | h1
      · rw [List.getElem?_append_left h1]
      · rw [List.getElem?_eq_none (by simp;omega),List.getElem?_eq_none (by omega)]
theorem right_put {L:List Ino} {no:Nat} {x:Ino} (hr:right L = true) (h:no<=L.length) (h24:no < 24) (h1:1<=no) (hx:one x = true):right (put L no x) = true:=by
  obtain ⟨hl,hroot,hall⟩:=right_iff.1 hr;obtain ⟨y,hy,hyk⟩:=rootB_get hroot;refine right_iff.2 ⟨?_,?_,fun z hz=>?_⟩
  · rw [put_length]
    split <;> omega
  · refine rootB_of (x := y) ?_ hyk
    rw [put_at h,if_neg (by omega)];exact hy
  · obtain ⟨j, hj⟩ := List.mem_iff_getElem?.1 hz
    rw [put_at h] at hj;split at hj
    · cases hj
      exact hx
    · exact hall z (List.mem_of_getElem? hj)
theorem make_next {T : List Ino} {kind stamp : Int} (he : makeErr T kind stamp = 0) : right T = true ∧ argOk kind stamp = true ∧ (next T).1 ≠ 24 ∧ makeTab T kind stamp = put T (next T).1.toNat (fresh (next T).2 kind stamp) ∧ makeH T kind stamp = next T := by
  have h1:makeTab T kind stamp = put T (next T).1.toNat (fresh (next T).2 kind stamp):=by unfold makeTab;rw [if_pos he]
  have h2:makeH T kind stamp = next T:=by unfold makeH;rw [if_pos he]
  unfold makeErr at he;split at he
  · rename_i hr
    split at he
    · rename_i ha
      split at he
      · cases he
      · rename_i hn
        exact ⟨hr,ha,hn,h1,h2⟩
    · cases he
  · cases he
theorem right_len24 {T:List Ino} (h:right T = true):1<=T.length/\T.length<=24:=(right_iff.1 h).1
theorem next_good {T:List Ino} (h:right T = true):1<=(next T).1/\(1<=(next T).2/\(next T).2<=1099511627776):=by
  obtain ⟨hl,hroot,hall⟩:=right_iff.1 h;obtain ⟨y,hy,hyk⟩:=rootB_get hroot;rcases next_cases T with ⟨j,x,hx,hk,hg,e⟩ | e
  · have hb := one_bd (hall x (List.mem_of_getElem? hx))
    rw [e];refine ⟨?_,by show 1<=x.gen + 1;omega,by show x.gen + 1<=_;omega⟩;have:j≠0:=by
      rintro rfl;rw [hy] at hx
      cases hx
      omega
    show 1<=(j:Int);omega
  · rw [e]
    exact ⟨by show 1<=(T.length:Int);omega,by show (1:Int)<=1;decide,by show (1:Int)<=1099511627776;decide⟩
end It
end
section
open Go.ChangeShapes Go.WideShapes Go.ChangeAt Go.RowKit Go.Deep It
namespace Sp
theorem make_keep {L:List Ino} {kind st:Int} (hm:It.makeErr L kind st = 0):It.right (makeTab L kind st) = true/\∀ (k:Nat) (x:Ino),L[k]? = some x->x.kind≠0->(makeTab L kind st)[k]? = some x:=by
  obtain ⟨hr,ha,hn,e1,-⟩:=make_next hm;have hk:kind = 1∨kind = 2:=by unfold argOk at ha;simp only [Bool.and_eq_true,decide_eq_true_eq] at ha;exact ha.1
  have hs0:0<=st/\st<=1099511627776:=by unfold argOk at ha;simp only [Bool.and_eq_true,decide_eq_true_eq] at ha;exact ha.2
  obtain ⟨hn1,hng⟩:=next_good hr;obtain ⟨hb0,hb1⟩:=next_bd L;have hlen:=right_len24 hr;rw [e1];refine ⟨right_put hr (by omega) (by omega) (by omega) (one_fresh hng hk hs0),fun k x hx hxk=>?_⟩;have hput:=put_at (x:=fresh (next L).2 kind st) (show (next L).1.toNat<=L.length by omega) k;have hne:k≠(next L).1.toNat:=by
    intro h;have hkl:k < L.length:=(List.getElem?_eq_some_iff.1 hx).1;rcases next_cases L with ⟨j,y,hy,hyk,-,e⟩ | e
    · rw [e] at h
      have hj:k = j:=by simpa using h
      subst hj;rw [hx] at hy
      cases hy
      exact hxk hyk
    · rw [e] at h
      simp at h;omega
  rw [if_neg hne] at hput;rw [hput];exact hx
theorem makeErr_zero {C:List Ino->Int} {L:List Ino} {a b:Int} {s:ByteArray} {kind st:Int} (h:makeErr C L a b s kind st = 0):(C L = 0/\top L<=st/\st<=1099511627776)/\(kind = 1∨kind = 2)/\dirErr L a b = 0:=by
  unfold makeErr at h
  by_cases hs:stErr C L st = 0
  · rw [if_pos hs] at h
    by_cases hk:kind = 1∨kind = 2
    · rw [if_pos hk] at h
      exact ⟨stErr_zero hs,hk,(nameErr_zero h).1⟩
    · rw [if_neg hk] at h
      exact absurd h (by decide)
  · rw [if_neg hs] at h
    exact absurd h hs
/-- What Make tells. -/
noncomputable def mkE (C:List Ino->Int) (L:List Ino) (a b:Int) (s:ByteArray) (kind st:Int):Int :=
  if makeErr C L a b s kind st = 0 then (if It.makeErr L kind st = 0 then Fo.addErr (dirEnts L a b) (dirNext L a b) s (makeH L kind st).1 (makeH L kind st).2 else It.makeErr L kind st) else makeErr C L a b s kind st
noncomputable def mkT (C:List Ino->Int) (L:List Ino) (a b:Int) (s:ByteArray) (kind st:Int):List Ino :=
  if mkE C L a b s kind st = 0 then
    (makeTab L kind st).set a.toNat (filled (findI L a b) ((findI L a b).ents ++ [(s,(findI L a b).next + 1,(makeH L kind st).1,(makeH L kind st).2)]) ((findI L a b).next + 1) st)
  else []
noncomputable def mkH (C:List Ino->Int) (L:List Ino) (a b:Int) (s:ByteArray) (kind st:Int):Int × Int :=
  if mkE C L a b s kind st = 0 then makeH L kind st else (0,0)
end Sp
end
end Go.Proofs.YtneojimodomohaaGreat
