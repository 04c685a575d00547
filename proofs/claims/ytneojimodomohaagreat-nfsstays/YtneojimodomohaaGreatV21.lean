/- NMe2, FPage, FRefP, FRefD, FRefE, RNm, SIns, FPlainH, Sta, Sta1, Mkf, as one. -/
import Derived.Lib.LazyBuf
import Derived.Test.YtneojimodomohaaGreatV20
set_option maxHeartbeats 8000000
set_option maxRecDepth 100000
namespace Go.Proofs.YtneojimodomohaaGreat
section
open Go.ChangeShapes Go.WideShapes Go.ChangeAt Go.RowKit Go.Deep It
theorem at_none {L:List Ino} {a b qa qb:Int} {s:ByteArray} (h:Sp.atErr (Sp.chk Sp.isSp) L a b s≠0) (hq:Sp.atH (Sp.chk Sp.isSp) L a b s = (qa,qb)):qa = 0/\qb = 0:=by
 unfold Sp.atErr at h;unfold Sp.atH at hq
 by_cases hc:Sp.chk Sp.isSp L = 0
 ·rw [if_pos hc] at h hq;unfold Sp.lookErr at h;unfold Sp.lookH at hq
  by_cases hd:Sp.dirErr L a b = 0
  ·rw [if_pos hd] at h hq;have:Fo.found (Sp.dirEnts L a b) (Sp.dirNext L a b) s = Fo.zeroE:=by
    unfold Fo.found;rw [if_neg h]
   rw [this] at hq;exact ⟨(congrArg Prod.fst hq).symm,(congrArg Prod.snd hq).symm⟩
  ·rw [if_neg hd] at hq;exact ⟨(congrArg Prod.fst hq).symm,(congrArg Prod.snd hq).symm⟩
 ·rw [if_neg hc] at hq;exact ⟨(congrArg Prod.fst hq).symm,(congrArg Prod.snd hq).symm⟩
namespace Nf
def atR (L:List Ino) (no:Int):Ino:=(L[no.toNat]?).getD zeroI
end Nf
theorem look_hit {L:List Rw} {a b:Int} {s:ByteArray} (h:Sp.atErr (Sp.chk Sp.isSp) (pl L) a b s = 0):∃ (k:Nat) (y:Rw),(Sp.atH (Sp.chk Sp.isSp) (pl L) a b s).1 = (k:Int)/\L[k]? = some y/\Nf.atR (pl L) (Sp.atH (Sp.chk Sp.isSp) (pl L) a b s).1 = y.i:=by
 unfold Sp.atErr at h
 by_cases hc:Sp.chk Sp.isSp (pl L) = 0
 ·rw [if_pos hc] at h;obtain ⟨-,-,-,hnm⟩:=isSp_means _ hc;obtain ⟨hd,hf,hh⟩:=Sp.lookErr_zero h;obtain ⟨kc,xc,-,hx,-,-,hde,hdn,-,-⟩:=Sp.dir_get hd;rw [hde,hdn] at hf hh;rcases Fo.findErr_or xc.ents xc.next s with ⟨j,e,-,hp,hj,-,-,-,-⟩ | ⟨-,h4⟩
  ·rw [Fo.found_hit hf hp hj] at hh;obtain ⟨n1,-,-⟩:=hnm xc (List.mem_of_getElem? hx) e (List.mem_of_getElem? hj);obtain ⟨kt,xt,ht,hxt,-,-,-,-⟩:=Sp.find_get n1;obtain ⟨y,hy,hyi⟩:=Sp.pl_some hxt;have e1:(Sp.atH (Sp.chk Sp.isSp) (pl L) a b s).1 = (kt:Int):=by
    unfold Sp.atH;rw [if_pos hc,hh];exact ht
   refine ⟨kt,y,e1,hy,?_⟩;rw [e1];unfold Nf.atR;rw [show ((kt:Int)).toNat = kt by omega,hxt,hyi];rfl
  ·omega
 ·rw [if_neg hc] at h;exact absurd h hc
theorem nlook_any {S : Nat → Prop} (vi vo vs : Value) (dn cl : Int) (c : Cal) (L : List Rw) (B : Nat) (w : World) (hB : w.heap[B]? = some (BTk vi vo vs dn cl c)) (hv : TabAt S w vi L) (hok : Sp.okN L) (hs : c.nm.size ≤ maxLen) :
    Calls Tryz.prog 47 #[.pointer (some ⟨B,0,none⟩)] w fun e w'=>∃ k l s t:Int,e = .returned (VRp (Sp.atErr (Sp.chk Sp.isSp) (pl L) c.no c.gen c.nm) (Sp.atH (Sp.chk Sp.isSp) (pl L) c.no c.gen c.nm).1 (Sp.atH (Sp.chk Sp.isSp) (pl L) c.no c.gen c.nm).2 k l s t ⟨#[]⟩ (.slice none 0 0) 0)/\(k,l,s,t) = (if Sp.atErr (Sp.chk Sp.isSp) (pl L) c.no c.gen c.nm = 0 then ((Nf.atR (pl L) (Sp.atH (Sp.chk Sp.isSp) (pl L) c.no c.gen c.nm).1).kind,(Nf.atR (pl L) (Sp.atH (Sp.chk Sp.isSp) (pl L) c.no c.gen c.nm).1).links,(Nf.atR (pl L) (Sp.atH (Sp.chk Sp.isSp) (pl L) c.no c.gen c.nm).1).size,(Nf.atR (pl L) (Sp.atH (Sp.chk Sp.isSp) (pl L) c.no c.gen c.nm).1).stamp) else (0,0,0,0))/\Bw w w':=by
  have hBl:=(Array.getElem?_eq_some_iff.1 hB).1;have HB:Hid (w.heap[B]? = some (BTk vi vo vs dn cl c)):=hB;obtain ⟨W,hW⟩:=qF (w.alloc BR0);have HB0:Hid _:=qB hW;have HA0:Hid _:=qC hW;have HT0:Hid (W.heap[B]? = some (BTk vi vo vs dn cl c)):=(HB0.out.block _ hBl).trans hB;have HV:Hid (TabAt S W vi L):=hv.up HB0.out;have hwW:w.heap.size < W.heap.size:=(Array.getElem?_eq_some_iff.1 HA0.out).1;have hBW:B < W.heap.size:=(Array.getElem?_eq_some_iff.1 HT0.out).1;have hBne:B≠w.heap.size:=by omega
  obtain ⟨t0,-,-,-,-,-,t6,t7,-,-,t10,-,-,-,-⟩:=tk_of HT0.out;obtain ⟨ao,cap,rfl,-,-⟩:=hv.open;obtain ⟨n,hn'⟩:=qE L.length;rw [hn'] at t0 HV HT0 HB;have HSG:Hid (∀ V:World,Bw W V->V.cell? ⟨B,0,none⟩ = some (.slice ao n cap)/\V.cell? ⟨B,6,none⟩ = some (.int .i64 c.no)/\V.cell? ⟨B,7,none⟩ = some (.int .i64 c.gen)/\V.cell? ⟨B,10,none⟩ = some (.string c.nm)):=fun V h=>⟨cell_step t0 h,cell_step t6 h,cell_step t7 h,cell_step t10 h⟩
  clear hv hB hn' t0 t6 t7 t10;obtain ⟨E,hE⟩:=qE (Sp.atErr (Sp.chk Sp.isSp) (pl L) c.no c.gen c.nm);obtain ⟨⟨qa,qb⟩,hq⟩:=qE (Sp.atH (Sp.chk Sp.isSp) (pl L) c.no c.gen c.nm);have HIT:Hid (E = 0->∃ (k:Nat) (y:Rw),qa = (k:Int)/\L[k]? = some y/\Nf.atR (pl L) qa = y.i):=fun h0=>by
    have:=look_hit (hE.trans h0);rw [hq] at this;exact this
  have HNO:Hid (E≠0->qa = 0/\qb = 0):=fun h0=>at_none (by rw [hE];exact h0) hq
  rw [hE,hq];simp only;obtain ⟨q4,hq4⟩:=qE (if E = 0 then ((Nf.atR (pl L) qa).kind,(Nf.atR (pl L) qa).links,(Nf.atR (pl L) qa).size,(Nf.atR (pl L) qa).stamp) else (0,0,0,0));rw [hq4];have HQ4:Hid ((if E = 0 then ((Nf.atR (pl L) qa).kind,(Nf.atR (pl L) qa).links,(Nf.atR (pl L) qa).size,(Nf.atR (pl L) qa).stamp) else (0,0,0,0)) = q4):=hq4;clear hq4;have HC:Hid (∀ V,Bw W V->Calls Tryz.prog 92 #[.slice ao n cap,.agg #[.int .i64 c.no,.int .i64 c.gen],.string c.nm] V fun e w'=>e = .returned (.tuple #[.agg #[.int .i64 qa,.int .i64 qb],.int .i64 E])/\Bw V w'):=fun V h=>by
    refine (look_any scheck_any _ L c.no c.gen c.nm V (HV.out.up h) hok hs).mono ?_;rintro e w' ⟨h1,h4⟩;rw [hE,hq] at h1;exact ⟨h1,h4⟩
  clear hE hq hok hs;go_enter Tryz.func47,Tryz.ntmps47;go_wp2_with fail;rw [← hW];clear hW;have HB01:Hid (Bw W (W.alloc (BH 0 0))):=qG _ _;have HB02:Hid (Bw W (W.drew.alloc (BH 0 0))):=(bel_drew (Below.refl _ _)).alloc (Nat.le_refl _) _;apply cut_in
  · intro hK
    go_region_held3 (fun V=>V.cell? ⟨B,0,none⟩ = some (.slice ao n cap)/\V.cell? ⟨B,6,none⟩ = some (.int .i64 c.no)/\V.cell? ⟨B,7,none⟩ = some (.int .i64 c.gen)/\V.cell? ⟨B,10,none⟩ = some (.string c.nm)) (first | exact HSG.out _ (by (repeat (first | with_reducible assumption | with_reducible exact Below.refl _ _ | with_reducible refine bel_drew ?_ | with_reducible refine Below.setCell ?_ (by first | exact Nat.le_refl _ | assumption) _ | with_reducible refine Below.alloc ?_ (by first | exact Nat.le_refl _ | assumption) _)))) (first
      | (go_at_call 92; refine (HC.out _ (by first | exact Below.refl _ _ | exact bel_drew (Below.refl _ _) | exact HB01.out | exact HB02.out | exact bel_drew HB01.out)).mono ?_; rintro e w5 ⟨rfl, hb5⟩;  have hb55 : Bw W w5 := (by first | exact hb5 | exact undrew hb5 | exact HB02.out.trans (hb5.mono HB02.out.size) | exact HB01.out.trans ((undrew hb5).mono HB01.out.size) | exact HB01.out.trans (hb5.mono HB01.out.size)); have h5s : W.heap.size ≤ w5.heap.size := hb55.size; (first
        | (have hz5:w5.heap[W.heap.size]? = some (BH 0 0):=(by first | exact (hb5.block _ (by simp)).trans (heap_alloc_new W.drew _) | exact (hb5.block _ (by show _ < Array.size _;simp)).trans (heap_alloc_new W _));have f0:=cell_at hz5 0;have f1:=cell_at hz5 1;have ff:=fr_at hz5;have HZ5:Hid (w5.heap[W.heap.size]? = some (BH 0 0)):=hz5; clear hz5)
        | (skip));clear hb5))
    all_goals first
      | (obtain ⟨Y, hY⟩ : ∃ Y, Y = w5.alloc (BH qa qb) := ⟨_, rfl⟩
         rw [← hY];have hYB:Bw W Y:=by rw [hY];exact hb55.alloc hb55.size _
         obtain ⟨A,hA⟩:=qF w5.heap.size;have hYX:Y.heap[A]? = some (BH qa qb):=by rw [hY,hA];exact heap_alloc_new _ _
         have hAw:W.heap.size<=A:=by rw [hA];exact h5s
         rw [← hA];clear hA hY)
      | (obtain ⟨Y, hY⟩ : ∃ Y, Y = ((w5.setCell ⟨W.heap.size, 0, none⟩ (.int .i64 qa)).setCell ⟨W.heap.size, 1, none⟩ (.int .i64 qb)) := ⟨_, rfl⟩
         rw [← hY];have hYe:Y = w5.setCells W.heap.size 0 ([.int .i64 qa,.int .i64 qb]):=hY;have hYB:Bw W Y:=by rw [hYe];exact setCells_below (Nat.le_refl _) _ _ _ hb55
         obtain ⟨A,hA⟩:=qF W.heap.size;have hYX:Y.heap[A]? = some (BH qa qb):=by rw [hYe,hA];exact setCells_at ([.int .i64 qa,.int .i64 qb]) HZ5.out rfl
         have hAw:W.heap.size<=A:=by rw [hA];exact Nat.le_refl _
         rw [← hA];clear hA hY hYe f0 f1 ff HZ5)
    all_goals
      have HR:Hid (Bw W Y/\Y.heap[A]? = some (BH qa qb)/\W.heap.size<=A):=⟨hYB,hYX,hAw⟩;clear hYB hYX hAw;revert HR;revert A Y;exact hK.out
  intro Y A HR;clear HSG HB01 HB02 HC;have HBY:Hid (Bw w Y):=HB0.out.trans (HR.out.1.mono HB0.out.size);have HZ:Hid (Y.heap[w.heap.size]? = some BR0):=(HR.out.1.block _ hwW).trans HA0.out;have HTY:Hid (Y.heap[B]? = some (BTk (.slice ao n cap) vo vs dn cl c)):=(HR.out.1.block _ hBW).trans HT0.out;have HVY:Hid (TabAt S Y (.slice ao n cap) L):=HV.out.up HR.out.1;have hzl:=(Array.getElem?_eq_some_iff.1 HZ.out).1;have hAl:=(Array.getElem?_eq_some_iff.1 HR.out.2.1).1;have hAne:w.heap.size≠A:=by have:=HR.out.2.2;omega
  have HXA:Hid (Y.heap[A]? = some (BH qa qb)):=HR.out.2.1;clear HR HA0 HT0 HV HB
  by_cases h0:E = 0
  · subst h0
    obtain ⟨k,y,rfl,hky,hya⟩:=HIT.out rfl;obtain ⟨yk,hyk⟩:=qE y.i.kind;obtain ⟨yl,hyl⟩:=qE y.i.links;obtain ⟨ys,hys⟩:=qE y.i.size;obtain ⟨yt,hyt⟩:=qE y.i.stamp;have HQK:Hid ((yk,yl,ys,yt) = q4):=by
      have h:=HQ4.out;rw [if_pos rfl,hya,hyk,hyl,hys,hyt] at h;exact h
    have HC2:Hid (∀ V,Bw Y V->Calls Tryz.prog 93 #[.pointer (some ⟨B,0,none⟩),.agg #[.int .i64 (k:Int),.int .i64 qb]] V fun e w'=>e = .returned (VA yk yl ys yt)/\Bw V w'):=fun V h=>by
      rw [← hyk,← hyl,← hys,← hyt];exact attrOf_any _ vo vs dn cl c L B (k:Int) qb V ((h.block _ (Array.getElem?_eq_some_iff.1 HTY.out).1).trans HTY.out) (HVY.out.up h) hky rfl
    have HSK:Hid (∀ V:World,V.heap[A]? = some (BH (k:Int) qb)->V.cell? ⟨A,0,none⟩ = some (.int .i64 (k:Int))/\V.cell? ⟨A,1,none⟩ = some (.int .i64 qb)):=fun V h=>(two_of h).1
    have HSA:Hid (∀ V:World,Bw Y V->V.cell? ⟨A,0,none⟩ = some (.int .i64 (k:Int))/\V.cell? ⟨A,1,none⟩ = some (.int .i64 qb)):=fun V h=>by
      obtain ⟨⟨a0,a1⟩,_⟩:=two_of HXA.out;exact ⟨cell_step a0 h,cell_step a1 h⟩
    clear hyk hyl hys hyt hya hky HIT HNO HQ4;go_wp2_with fail;obtain ⟨a0,a1⟩:=HSA.out Y (Below.refl _ _)
    go_region_with (go_at_call 93;refine (HC2.out _ (by first | exact Below.refl _ _ | exact bel_drew (Below.refl _ _))).mono ?_;rintro e w7 ⟨rfl,hb7⟩;have hb77:Bw Y w7:=(by first | exact hb7 | exact undrew hb7);have hz7:w7.heap[w.heap.size]? = some BR0:=(hb77.block _ hzl).trans HZ.out;obtain ⟨g0,g1,g2,g3,g4,g5,g6,g7,g8,g9⟩:=rp_of hz7;have gg:=fr_at hz7;have HB7:Hid (Bw w w7):=HBY.out.trans (hb77.mono HBY.out.size);obtain ⟨b0,b1⟩:=HSA.out w7 hb77;clear hb7 hz7 hb77)
    all_goals
      go_wp2
      (try simp only [Exit.inBlock,Exit.then])
      refine bodyPost_ret (v:=VRp 0 (k:Int) qb yk yl ys yt ⟨#[]⟩ (.slice none 0 0) 0) ?_ rfl ⟨yk,yl,ys,yt,rfl,HQK.out,?_⟩
      · rw [results_cell1 rfl]
        go_simp
      · repeat (with_reducible refine Below.setCell ?_ (by simp) _)
        exact HB7.out
  · obtain ⟨rfl, rfl⟩ := HNO.out h0
    have HQK:Hid (((0:Int),(0:Int),(0:Int),(0:Int)) = q4):=by
      have h:=HQ4.out;rw [if_neg h0] at h;exact h
    have hz:(E != 0) = true:=by simpa using h0
    clear HIT HNO h0 HQ4;go_wp2_with fail;refine (wrong_any E _).mono ?_;rintro e w7 ⟨rfl,hb7⟩;have HB7:Hid (Bw w w7):=HBY.out.trans (hb7.mono HBY.out.size);have HZ7:=qK hb7 HZ;obtain ⟨g0,g1,g2,g3,g4,g5,g6,g7,g8,g9⟩:=rp_of HZ7.out;have gg:=fr_at HZ7.out;clear hb7;go_wp2
    (try simp only [Exit.inBlock,Exit.then])
    refine bodyPost_ret (v:=VRp E 0 0 0 0 0 0 ⟨#[]⟩ (.slice none 0 0) 0) ?_ rfl ⟨0,0,0,0,rfl,HQK.out,?_⟩
    · rw [results_cell1 rfl]
      go_simp
    · repeat (with_reducible refine Below.setCell ?_ (by simp) _)
      exact HB7.out
end
section
open Go.ChangeShapes Go.WideShapes Go.ChangeAt Go.RowKit Go.Deep
theorem clone_any (v:Value) (l:List Ent) (w:World) (hv:AtW EE w v l) (hl:l.length<=1099511627776) :
  Calls Tryz.prog 163 #[v] w fun e w'=>∃ p n c,e = .returned (.slice p n c)/\At EE (fun b=>w.heap.size<=b) w' (.slice p n c) l/\Bw w w':=by
 have HV:Hid (AtW EE w v l):=hv;obtain ⟨ao,cap,rfl,hm,hx⟩:=hv.open;clear hv;unfold maxLen at hm;have HL:Hid (l.length<=1099511627776):=hl
 cases ao with
 | none =>
  have h0:l = []:=by
   cases l with
   | nil=>rfl
   | cons x r =>
    obtain ⟨b,off,h,-⟩:=hx 0 x rfl
    cases h
  subst h0;clear hx HV HL hl hm;have hnil:=fun w'=>Lib.run_eql_slice_nil (P:=Tryz.prog) w' 38 110 none 0 cap 0 0 Tryz.underlying38
  go_enter Tryz.func163,Tryz.ntmps163;go_wp2;go_ret;exact ⟨_,_,_,rfl,.inl ⟨_,_,rfl,rfl⟩,Below.refl _ _⟩
 | some a =>
  obtain ⟨j0,hj,hy0,hy1,hy2⟩:=info_parts finfoE;have HR:Hid (Row EE (w.alloc (.cells #[] 110)) w.heap.size 110 (.slice (some ⟨w.heap.size,0,none⟩) 0 0) []):=.inr ⟨w.heap.size,0,#[],rfl,Nat.le_refl _,heap_alloc_new _ _,Nat.le_refl _,by decide,by simp,by simp [Enc.flat]⟩;have HB0:Hid (Bw w (w.alloc (.cells #[] 110))):=qG _ _;have HV1:Hid (AtW EE (w.alloc (.cells #[] 110)) (.slice (some a) l.length cap) l):=HV.out.up HB0.out;clear hx hm hl;obtain ⟨m,hlm⟩:=qE l.length;rw [hlm] at HV1 ⊢;clear hlm;have hnil:=fun w'=>Lib.run_eql_slice_nil (P:=Tryz.prog) w' 38 110 (some a) m cap 0 0 Tryz.underlying38
  go_enter Tryz.func163,Tryz.ntmps163
  go_wp2_with (at_builtin;refine wpList_row _ rfl _ _ 38 rfl EE (fun _=>True) w.heap.size 110 j0 _ 40 Tryz.underlying38 hj hy0 hy1 hy2 rfl _ [] rfl HR.out _ l rfl HV1.out (by have:=HL.out;unfold maxLen;simp;omega) (by have:=HL.out;simp;omega) (by simp) ?_;intro v7 w7 hrow7 hg7 hloc7)
  have HEND:Hid (Row EE w7 w.heap.size 110 v7 l/\Bw w w7):=⟨by simpa using hrow7,HB0.out.grown hg7 (by simp) (fun k hk=>(HR.out.lt k hk).1)⟩;clear hrow7 hg7 hloc7;obtain ⟨pu,nu,cu,rfl⟩:=HEND.out.1.slice3;go_ret;exact ⟨_,_,_,rfl,HEND.out.1.at,HEND.out.2⟩
namespace Fo
noncomputable def pageErr (l:List Ent) (next c n:Int):Int:=if err l next = 0 then (if 0<=c/\(1<=n/\n<=64) then 0 else 1) else 4
noncomputable def page (l:List Ent) (next c n:Int):List Ent:=if pageErr l next c n = 0/\0<=at' (past c) l then (l.drop (at' (past c) l).toNat).take n.toNat else []
theorem page_no {l:List Ent} {next c n e:Int} (h:pageErr l next c n = e) (he:e≠0):page l next c n = []:=by unfold page;rw [if_neg (fun k=>he (h.symm.trans k.1))]
theorem page_miss {l:List Ent} {next c n:Int} (h:at' (past c) l = -1):page l next c n = []:=by unfold page;rw [if_neg (fun k=>by rw [h] at k;omega)]
theorem page_hit {l:List Ent} {next c n:Int} {k:Nat} (h:pageErr l next c n = 0) (hk:at' (past c) l = k):page l next c n = (l.drop k).take n.toNat:=by
 unfold page;rw [if_pos ⟨h,by rw [hk];omega⟩,hk];rfl
end Fo
theorem page_any (v:Value) (l:List Ent) (next c n:Int) (w:World) (hv:AtW EE w v l) (hs:∀ x∈l,x.1.size<=maxLen) :
  Calls Tryz.prog 110 #[VD v next,.int .i64 c,.int .i64 n] w fun e w'=>∃ p j q,e = .returned (.tuple #[.slice p j q,.int .i64 (Fo.pageErr l next c n)])/\At EE (fun b=>w.heap.size<=b) w' (.slice p j q) (Fo.page l next c n)/\Bw w w':=by
 have hv0:=hv;obtain ⟨ao,cap,rfl,hm,hx⟩:=hv0.open;clear hv0;unfold maxLen at hm;obtain ⟨m,hlm⟩:=qE l.length;rw [hlm] at hm hv ⊢;have HLM:Hid (l.length = m):=hlm;clear hlm;obtain ⟨W,hW⟩:=qF ((w.alloc (BD (.slice ao m cap) next)).alloc (.cells #[.int .i64 c] 3));have HB0:Hid (Bw w W):=by show Bw w W;rw [hW];exact (qG _ _).alloc (by simp) _
 have a0:W.cell? ⟨w.heap.size,0,none⟩ = some (.slice ao m cap):=by
  rw [hW];exact (cell_older (by simp) _ _).trans (box_cells w (.slice ao m cap) next).1
 have a1:W.cell? ⟨w.heap.size + 1,0,none⟩ = some (.int .i64 c):=by
  have hh:=heap_alloc_new (w.alloc (BD (.slice ao m cap) next)) (.cells #[.int .i64 c] 3);rw [← hW,show (w.alloc (BD (.slice ao m cap) next)).heap.size = w.heap.size + 1 by simp] at hh;simp only [World.cell?,hh];rfl
 have HV:Hid (AtW EE W (.slice ao m cap) l):=hv.up HB0.out;have HS:Hid (∀ x∈l,x.1.size<=maxLen):=hs;have HV0:Hid (AtW EE w (.slice ao m cap) l):=hv;clear hv hs;rcases Fo.err_or l next with ⟨he,hr⟩ | ⟨he,-⟩
 ·have HE:Hid (Fo.err l next = 0):=he
  by_cases c0:c < 0
  ·have HPE:Hid (Fo.pageErr l next c n = 1):=by show Fo.pageErr l next c n = 1;unfold Fo.pageErr;rw [if_pos he,if_neg (fun h=>by omega)]
   have HPG:Hid (Fo.page l next c n = []):=Fo.page_no HPE.out (by decide);rw [HPE.out];clear he hr hx;go_enter Tryz.func110,Tryz.ntmps110;go_wp2_with fail;rw [← hW];refine (fcheck_any _ l next _ HV.out HS.out).mono ?_;rintro e w1 ⟨rfl,hb⟩;rw [HE.out];have HB1:Hid (Bw w w1):=HB0.out.trans (hb.mono HB0.out.size);have e0:=cell_step a0 hb;have e1:=cell_step a1 hb;have HV1:Hid (AtW EE w1 (.slice ao m cap) l):=HV.out.up hb;clear hb hW a0 a1;go_wp2
   go_ret2
   exact ⟨none,0,0,rfl,by rw [HPG.out];exact .inl ⟨_,_,rfl,rfl⟩,HB1.out⟩
  by_cases n0:1<=n/\n<=64
  ·have G:Hid (1<=n/\n<=64):=n0;have HPE:Hid (Fo.pageErr l next c n = 0):=by show Fo.pageErr l next c n = 0;unfold Fo.pageErr;rw [if_pos he,if_pos ⟨by omega,n0⟩]
   rw [HPE.out];rcases Fo.at_or (Fo.past c) l with ⟨ht,-⟩ | ⟨k,x,ht,hxk,-,-⟩
   ·have HT:Hid (Fo.at' (Fo.past c) l = -1):=ht;have HPG:Hid (Fo.page l next c n = []):=Fo.page_miss ht;clear he hr hx ht n0;go_enter Tryz.func110,Tryz.ntmps110;go_wp2_with fail;rw [← hW];refine (fcheck_any _ l next _ HV.out HS.out).mono ?_;rintro e w1 ⟨rfl,hb⟩;rw [HE.out];have HB1:Hid (Bw w w1):=HB0.out.trans (hb.mono HB0.out.size);have e0:=cell_step a0 hb;have e1:=cell_step a1 hb;have HV1:Hid (AtW EE w1 (.slice ao m cap) l):=HV.out.up hb;clear hb hW a0 a1;go_wp2_with fail;refine (fwithin_yes _ _ _ _ G.out).mono ?_;rintro e w2 ⟨rfl,hw2⟩;obtain rfl:w1 = w2:=hw2.symm;go_wp2_with fail;refine (index_past _ l c (w.heap.size + 1) _ HV1.out (cell_lt e1) e1).mono ?_;rintro e w3 ⟨rfl,hb3⟩;rw [HT.out];have HB3:Hid (Bw w w3):=HB1.out.trans (hb3.mono HB1.out.size);clear hb3;go_wp2
    go_ret2
    exact ⟨none,0,0,rfl,by rw [HPG.out];exact .inl ⟨_,_,rfl,rfl⟩,HB3.out⟩
   ·have HT:Hid (Fo.at' (Fo.past c) l = k):=ht;have HPG:Hid (Fo.page l next c n = (l.drop k).take n.toNat):=Fo.page_hit HPE.out ht;have hk:=(qM hxk);rw [HLM.out] at hk;obtain ⟨bb,off,rfl,-,hB,-⟩:=hx k x hxk;have hcap:=HV0.out.capd (by omega);unfold maxLen at hcap;have HRL:Hid (l.length<=1099511627776):=by
     have:=Fo.right_len hr;have:=hr.1.2;show l.length<=1099511627776;omega
    have hkI:(k:Int) < (m:Int):=by omega
    have hcI:(m:Int)<=(cap:Int):=by omega
    have hcnk:¬ cap = k:=by omega
    have hk0:(0:Int)<=(k:Int):=by omega
    have hn1:1<=n:=n0.1;have hn64:n<=64:=n0.2;have hml:m<=1099511627776:=by have:=HRL.out;have:=HLM.out;omega
    have hkn:IntKind.i64.wrap ((k:Int) + n) = (k:Int) + n:=by rw [IntKind.wrap_i64];omega
    have HLP:Hid (((l.drop k).take n.toNat).length<=1099511627776):=by
     have:=HRL.out;show ((l.drop k).take n.toNat).length<=1099511627776;simp;omega
    have hge0:(0:Int)<=(k:Int) + n:=by omega
    clear he hr hx ht hxk n0
    by_cases hbig0:(k:Int) + n<=(m:Int)
    ·have hbig:¬ (m:Int) < (k:Int) + n:=by omega
     clear hbig0;have HCUT:Hid (∀ w',AtW EE w' (.slice (some ⟨bb,off,none⟩) m cap) l->AtW EE w' (.slice (some ⟨bb,off + k * 4,none⟩) (((k:Int) + n).toNat - k) (cap - k)) ((l.drop k).take n.toNat)):=fun w' h=>by
      have g1:=h.cut (lo:=k) (hi:=((k:Int) + n).toNat) (by omega) (by omega);rw [List.drop_take,show ((k:Int) + n).toNat - k = n.toNat by omega] at g1;unfold sliced at g1;rw [if_neg hcnk] at g1;simpa [WideShapes.add_plain,EE,show ((k:Int) + n).toNat - k = n.toNat by omega] using g1
     have hbig2:(k:Int) + n<=(cap:Int):=by omega
     have hbig3:(k:Int)<=(k:Int) + n:=by omega
     go_enter Tryz.func110,Tryz.ntmps110;go_wp2_with fail;rw [← hW];refine (fcheck_any _ l next _ HV.out HS.out).mono ?_;rintro e w1 ⟨rfl,hb⟩;rw [HE.out];have HB1:Hid (Bw w w1):=HB0.out.trans (hb.mono HB0.out.size);have e0:=cell_step a0 hb;have e1:=cell_step a1 hb;have HV1:Hid (AtW EE w1 (.slice (some ⟨bb,off,none⟩) m cap) l):=HV.out.up hb;clear hb hW a0 a1;go_wp2_with fail;refine (fwithin_yes _ _ _ _ G.out).mono ?_;rintro e w2 ⟨rfl,hw2⟩;obtain rfl:w1 = w2:=hw2.symm;go_wp2_with fail;refine (index_past _ l c (w.heap.size + 1) _ HV1.out (cell_lt e1) e1).mono ?_;rintro e w3 ⟨rfl,hb3⟩;rw [HT.out];have HB3:Hid (Bw w w3):=HB1.out.trans (hb3.mono HB1.out.size);have f0:=cell_step e0 hb3;have HV3:Hid (AtW EE w3 (.slice (some ⟨bb,off,none⟩) m cap) l):=HV1.out.up hb3;clear hb3 e0 e1;go_wp2_with fail;refine (clone_any _ _ _ (HCUT.out _ HV3.out) HLP.out).mono ?_;rintro e w4 ⟨p4,n4,c4,rfl,h4,hb4⟩;have HEND:Hid (At EE (fun b=>w.heap.size<=b) w4 (.slice p4 n4 c4) ((l.drop k).take n.toNat)/\Bw w w4):=⟨h4.imp fun b hb _=>Nat.le_trans HB3.out.size hb,HB3.out.trans (hb4.mono HB3.out.size)⟩;clear h4 hb4;go_wp2
     go_ret2
     exact ⟨_,_,_,rfl,by rw [HPG.out];exact HEND.out.1,HEND.out.2⟩
    ·have hbig:(m:Int) < (k:Int) + n:=by omega
     clear hbig0;have HCUT:Hid (∀ w',AtW EE w' (.slice (some ⟨bb,off,none⟩) m cap) l->AtW EE w' (.slice (some ⟨bb,off + k * 4,none⟩) (m - k) (cap - k)) ((l.drop k).take n.toNat)):=fun w' h=>by
      have hmL:=HLM.out;have g1:=h.cut (lo:=k) (hi:=m) (by omega) (Nat.le_refl _);rw [List.drop_take,List.take_of_length_le (by simp;omega)] at g1;rw [List.take_of_length_le (by simp;omega)];unfold sliced at g1;rw [if_neg hcnk] at g1;simpa [WideShapes.add_plain,EE] using g1
     go_enter Tryz.func110,Tryz.ntmps110;go_wp2_with fail;rw [← hW];refine (fcheck_any _ l next _ HV.out HS.out).mono ?_;rintro e w1 ⟨rfl,hb⟩;rw [HE.out];have HB1:Hid (Bw w w1):=HB0.out.trans (hb.mono HB0.out.size);have e0:=cell_step a0 hb;have e1:=cell_step a1 hb;have HV1:Hid (AtW EE w1 (.slice (some ⟨bb,off,none⟩) m cap) l):=HV.out.up hb;clear hb hW a0 a1;go_wp2_with fail;refine (fwithin_yes _ _ _ _ G.out).mono ?_;rintro e w2 ⟨rfl,hw2⟩;obtain rfl:w1 = w2:=hw2.symm;go_wp2_with fail;refine (index_past _ l c (w.heap.size + 1) _ HV1.out (cell_lt e1) e1).mono ?_;rintro e w3 ⟨rfl,hb3⟩;rw [HT.out];have HB3:Hid (Bw w w3):=HB1.out.trans (hb3.mono HB1.out.size);have f0:=cell_step e0 hb3;have HV3:Hid (AtW EE w3 (.slice (some ⟨bb,off,none⟩) m cap) l):=HV1.out.up hb3;clear hb3 e0 e1;go_wp2_with fail;refine (clone_any _ _ _ (HCUT.out _ HV3.out) HLP.out).mono ?_;rintro e w4 ⟨p4,n4,c4,rfl,h4,hb4⟩;have HEND:Hid (At EE (fun b=>w.heap.size<=b) w4 (.slice p4 n4 c4) ((l.drop k).take n.toNat)/\Bw w w4):=⟨h4.imp fun b hb _=>Nat.le_trans HB3.out.size hb,HB3.out.trans (hb4.mono HB3.out.size)⟩;clear h4 hb4;go_wp2
     go_ret2
     exact ⟨_,_,_,rfl,by rw [HPG.out];exact HEND.out.1,HEND.out.2⟩
  ·have G:Hid (¬ (1<=n/\n<=64)):=n0;have HPE:Hid (Fo.pageErr l next c n = 1):=by show Fo.pageErr l next c n = 1;unfold Fo.pageErr;rw [if_pos he,if_neg (fun h=>n0 h.2)]
   have HPG:Hid (Fo.page l next c n = []):=Fo.page_no HPE.out (by decide);rw [HPE.out];clear he hr hx n0;go_enter Tryz.func110,Tryz.ntmps110;go_wp2_with fail;rw [← hW];refine (fcheck_any _ l next _ HV.out HS.out).mono ?_;rintro e w1 ⟨rfl,hb⟩;rw [HE.out];have HB1:Hid (Bw w w1):=HB0.out.trans (hb.mono HB0.out.size);have e0:=cell_step a0 hb;have e1:=cell_step a1 hb;have HV1:Hid (AtW EE w1 (.slice ao m cap) l):=HV.out.up hb;clear hb hW a0 a1;go_wp2_with fail;refine (fwithin_no _ _ _ _ G.out).mono ?_;rintro e w2 ⟨rfl,hw2⟩;obtain rfl:w1 = w2:=hw2.symm;go_wp2
   go_ret2
   exact ⟨none,0,0,rfl,by rw [HPG.out];exact .inl ⟨_,_,rfl,rfl⟩,HB1.out⟩
 ·have HE:Hid (Fo.err l next = 4):=he;have HPE:Hid (Fo.pageErr l next c n = 4):=by show Fo.pageErr l next c n = 4;unfold Fo.pageErr;rw [if_neg (by rw [he];decide)]
  have HPG:Hid (Fo.page l next c n = []):=Fo.page_no HPE.out (by decide);rw [HPE.out];clear he hx;go_enter Tryz.func110,Tryz.ntmps110;go_wp2_with fail;rw [← hW];refine (fcheck_any _ l next _ HV.out HS.out).mono ?_;rintro e w1 ⟨rfl,hb⟩;rw [HE.out];have HB1:Hid (Bw w w1):=HB0.out.trans (hb.mono HB0.out.size);have e0:=cell_step a0 hb;have e1:=cell_step a1 hb;have HV1:Hid (AtW EE w1 (.slice ao m cap) l):=HV.out.up hb;clear hb hW a0 a1;go_wp2
  go_ret2
  exact ⟨none,0,0,rfl,by rw [HPG.out];exact .inl ⟨_,_,rfl,rfl⟩,HB1.out⟩
namespace Fo
/-- What the first k entries bring into a page. -/
def pre (l:List Ent) (c:Int) (n:Nat) (k:Nat):List Ent:=((l.take k).filter (past c)).take n
/-- Behind the first cookie that is greater all are. -/
theorem rising {l:List Ent} {next:Int} (h:Right l next):∀ (j i:Nat) x y,i < j->l[i]? = some x->l[j]? = some y->x.2.1 < y.2.1:=fun j=>by
  induction j with
  | zero=>intro i x y hij;omega
  | succ j ih =>
    intro i x y hij hx hy;have hjl:=(List.getElem?_eq_some_iff.1 hy).1;have hz:l[j]? = some (l[j]'(by omega)):=List.getElem?_eq_getElem _;have hg:=h.2.1 (j + 1) hjl y hy;rw [lastC_succ hz] at hg
    by_cases e:i = j
    · subst e
      rw [hx] at hz
      cases hz
      omega
    · have := ih i x _ (by omega) hx hz
      omega
end Fo
abbrev BF (v:Value) (next:Int):Obj:=.cells #[v,.int .i64 next] 96
abbrev BZF:Obj:=.cells #[.slice none 0 0,.int .i64 0] 96
/-- Three boxes that stay. -/
abbrev Bx (n:Nat) (v:Value) (next no gen:Int) (w:World):Prop:=w.heap[n]? = some (BF v next)/\w.heap[n + 1]? = some (BHf no gen)/\w.heap[n + 2]? = some BZF
namespace Fo
end Fo
abbrev Bx2 (n:Nat) (v:Value) (next:Int) (w:World):Prop:=w.heap[n]? = some (BF v next)/\w.heap[n + 1]? = some BZF
end
section
open Go.ChangeShapes Go.WideShapes Go.ChangeAt Go.RowKit Go.Deep It
theorem tab_eight {w:World} {L:List Rw} {S:Nat->Prop} {ao:Option Addr} {n cap:Nat} (h:TabAt S w (.slice ao n cap) L) {i:Nat} {x:Rw} (hi:L[i]? = some x) :
    (∃ b off,ao = some ⟨b,off,none⟩/\b < w.heap.size/\eight w b (off + i * 8) x)/\x.en = x.i.ents.length/\x.i.ents.length<=3518437208883 /\
    ∀ j e,x.i.ents[j]? = some e->∃ b off,x.ep = some ⟨b,off,none⟩/\b < w.heap.size/\ent4 w b (off + j * 4) e:=by
  obtain ⟨ao',cap',hv,-,hx⟩:=h.open;simp only [Value.slice.injEq] at hv;obtain ⟨rfl,-,rfl⟩:=hv;obtain ⟨h1,h2⟩:=hx i x hi;refine ⟨h1,h2.len.2,h2.2.2.2.2,fun j e he=>?_⟩;obtain ⟨eo,ecap,hev,-,hents⟩:=h2.2.1.open;simp only [Value.slice.injEq] at hev;obtain ⟨rfl,-,rfl⟩:=hev;obtain ⟨b2,off2,h1,-,h3,hc⟩:=hents j e he;exact ⟨b2,off2,h1,h3,hc 0 _ rfl,hc 1 _ rfl,hc 2 _ rfl,hc 3 _ rfl⟩
theorem ent4.below {w w':World} {b o B:Nat} {e:Sp.En} (h:ent4 w b o e) (hb:Below B w w') (hB:b < B):ent4 w' b o e :=
  ⟨(hb.cell (p:=⟨b,o,none⟩) hB).trans h.1,(hb.cell (p:=⟨b,o + 1,none⟩) hB).trans h.2.1,(hb.cell (p:=⟨b,o + 2,none⟩) hB).trans h.2.2.1,(hb.cell (p:=⟨b,o + 3,none⟩) hB).trans h.2.2.2⟩
end
section
open It
theorem Sp.chk_zero {L:List Ino} (h:Sp.chk Sp.isSp L = 0):Sp.isSp L = true:=by
  unfold Sp.chk at h;split at h
  · assumption
  · cases h
end
section
namespace Fo
def okE (next:Int) (x:Ent):Prop:=Nm.ok x.1/\(1<=x.2.1/\x.2.1<=next)/\Ho x.2.2.1 x.2.2.2
theorem right_iff {l:List Ent} {next:Int}:Right l next ↔ (0<=next/\next<=1099511627776)/\(∀ x∈l,okE next x)/\l.Pairwise (fun a b=>a.2.1 < b.2.1)/\apart l:=by
  constructor
  · intro h
    refine ⟨h.1,fun x hx=>?_,?_,h.2.2⟩
    · obtain ⟨i, hi⟩ := List.mem_iff_getElem?.1 hx
      have hl:=(List.getElem?_eq_some_iff.1 hi).1;have hg:=h.2.1 i hl x hi;have hb:=lastC_bd (k:=i) (fun j hj=>h.2.1 j (by omega)) (by omega) h.1.1;exact ⟨hg.1,⟨by omega,hg.2.1.2⟩,hg.2.2⟩
    · rw [List.pairwise_iff_getElem]
      intro i j hi hj hij;exact rising h j i _ _ hij (List.getElem?_eq_getElem hi) (List.getElem?_eq_getElem hj)
  · rintro ⟨h1, h2, h3, h4⟩
    refine ⟨h1,fun i hi x hx=>?_,h4⟩;have hm:=h2 x (List.mem_of_getElem? hx);refine ⟨hm.1,⟨?_,hm.2.1.2⟩,hm.2.2⟩
    cases i with
    | zero =>
      have:=hm.2.1.1;simpa [lastC] using this
    | succ i =>
      have hy:l[i]? = some (l[i]'(by omega)):=List.getElem?_eq_getElem _;rw [lastC_succ hy];have h5:=List.pairwise_iff_getElem.1 h3 i (i + 1) (by omega) hi (by omega);have h6:=(List.getElem?_eq_some_iff.1 hx).2;rw [h6] at h5;omega
end Fo
end
section
open It
namespace Sp
theorem mem_entsAt {L:List Ino} {p:Nat} {e:En}:e∈entsAt L p ↔ ∃ x,L[p]? = some x/\e∈x.ents:=by
  unfold entsAt
  cases h:L[p]? with
  | none=>simp
  | some x=>simp
end Sp
namespace Sp
theorem find_same {L:List Ino} {a b:Int} {k:Nat} {x:Ino} (hf:findErr L a b = 0) (ha:a = k) (hx:L[k]? = some x):findI L a b = x:=by
  unfold findI;rw [if_pos hf,ha,show ((k:Int)).toNat = k by omega,hx];rfl
/-- Names of a space can be. -/
theorem okN_sp {L:List Rw} (h:isSp (pl L) = true):okN L:=fun x hx e he=>by
  obtain ⟨i,hi⟩:=List.mem_iff_getElem?.1 hx;have hpi:(pl L)[i]? = some x.i:=by rw [List.getElem?_map,hi];rfl
  have h32:=((isSp_tree h).inr i e (mem_entsAt.2 ⟨x.i,hpi,he⟩)).2.2.1;exact Nat.le_trans h32 (by decide)
end Sp
namespace Sp
/-- What Make tells, in full. -/
theorem make_form {L : List Ino} {a b kind st : Int} {s : ByteArray} (h : mkE (chk isSp) L a b s kind st = 0) :
    ∃ (kc : Nat) (xc : Ino) (nn : Nat) (g : Int), isSp L = true ∧ a = kc ∧ L[kc]? = some xc ∧ xc.gen = b ∧ xc.kind = 2 ∧ mkH (chk isSp) L a b s kind st = ((nn : Int), g) ∧ Fo.addErr xc.ents xc.next s nn g = 0 ∧ kc ≠ nn ∧ (∀ x, L[nn]? = some x → x.kind = 0) ∧
      ∀ i,(mkT (chk isSp) L a b s kind st)[i]? = if i = kc then some (filled xc (xc.ents ++ [(s,xc.next + 1,(nn:Int),g)]) (xc.next + 1) st) else if i = nn then some (fresh g kind st) else L[i]?:=by
  have h0:=h;unfold mkE at h
  by_cases hl:makeErr (chk isSp) L a b s kind st = 0
  · rw [if_pos hl] at h
    obtain ⟨⟨hc0,hst⟩,hkind,hdc⟩:=makeErr_zero hl
    by_cases hm:It.makeErr L kind st = 0
    · rw [if_pos hm] at h
      have hs:=chk_zero hc0;obtain ⟨hr,-,hn24,e1,e2⟩:=make_next hm;obtain ⟨kc,xc,hc,hxc,hgc,hkc,hec,hnc,hfc,-⟩:=dir_get hdc;have hic:=find_same hfc hc hxc;have hnn:∃ nn:Nat,(next L).1 = nn/\nn<=L.length/\∀ x,L[nn]? = some x->x.kind = 0:=by
        rcases next_cases L with ⟨j,y,hy,hyk,-,e⟩ | e
        · exact ⟨j,by rw [e],Nat.le_of_lt (List.getElem?_eq_some_iff.1 hy).1,fun x hx=>by rw [hx] at hy;cases hy;exact hyk⟩
        · exact ⟨L.length,by rw [e],Nat.le_refl _,fun x hx=>by simp at hx⟩
      obtain ⟨nn,hnn1,hnl,hnn2⟩:=hnn;rw [hec,hnc,e2,hnn1] at h;have hne:kc≠nn:=by
        rintro rfl;have:=hnn2 xc hxc;omega
      refine ⟨kc,xc,nn,(next L).2,hs,hc,hxc,hgc,hkc,?_,h,hne,hnn2,fun i=>?_⟩
      · unfold mkH
        rw [if_pos h0,e2,← hnn1]
      · have e3 : mkT (chk isSp) L a b s kind st = (put L nn (fresh (next L).2 kind st)).set kc (filled xc (xc.ents ++ [(s, xc.next + 1, (nn : Int), (next L).2)]) (xc.next + 1) st) := by
          unfold mkT;rw [if_pos h0,hic,e1,e2,hnn1,hc,show ((nn:Int)).toNat = nn by omega,show ((kc:Int)).toNat = kc by omega]
        have hg1:=put_at (x:=fresh (next L).2 kind st) hnl;have hc1:(put L nn (fresh (next L).2 kind st))[kc]? = some xc:=by rw [hg1,if_neg hne];exact hxc
        have hcl:=(List.getElem?_eq_some_iff.1 hc1).1;rw [e3,List.getElem?_set]
        by_cases hi:i = kc
        · subst hi
          simp [hcl]
        · rw [if_neg (fun e => hi e.symm), if_neg hi]
          exact hg1 i
    · rw [if_neg hm] at h
      exact absurd h hm
  · rw [if_neg hl] at h
    exact absurd h hl
end Sp
end
end Go.Proofs.YtneojimodomohaaGreat
