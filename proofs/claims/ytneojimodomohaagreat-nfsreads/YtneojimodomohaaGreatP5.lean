/- NfReads, as one. -/
import Derived.Test.YtneojimodomohaaGreatP4
namespace Go.Proofs.YtneojimodomohaaGreat
open Go.ChangeShapes Go.WideShapes Go.ChangeAt Go.RowKit Go.Deep It
set_option maxRecDepth 100000
set_option linter.unusedSimpArgs false in
set_option maxHeartbeats 8000000 in
theorem reads_any (vl : Value) (l : List Doc) (a : Int) (d : ByteArray) (w : World) (hv : AtW EDo w vl l) (hf : ∀ x ∈ l, fits x.2) (hd : d.size ≤ maxLen) :
  Calls Tryz.prog 6 #[vl,.int .i64 a,.string d] w fun e w'=>e = .returned (.bool true)/\Below w.heap.size w w':=by
 obtain ⟨ao,cap,rfl,hm,hx⟩:=hv.open
 clear hv
 unfold maxLen at hm hd
 obtain ⟨N,hN⟩:∃ N,l.length = N:=⟨_,rfl⟩
 rw [hN] at hm ⊢
 have HN:Hid (l.length = N):=hN
 have HX:Hid (∀ i x,l[i]? = some x->∃ b off,ao = some ⟨b,off,none⟩/\True/\b < w.heap.size/\∀ k u,(EDo.cells x)[k]? = some u->w.cell? ⟨b,off + (i * EDo.sz + k),none⟩ = some u):=hx
 have HF:Hid (∀ x∈l,fits x.2):=hf
 clear hN hx hf
 by_cases hg:N<=120/\0<=a/\a<=1048064/\d.size<=512
 ·have g1 : ¬ (120 : Int) < (N : Int) := by omega
  have g2:¬ a < 0:=by omega
  have g3:¬ (1048064:Int) < a:=by omega
  have g4:¬ (512:Int) < (d.size:Int):=by omega
  have HG:Hid (N<=120/\0<=a/\a<=1048064/\d.size<=512):=hg
  clear hg
  go_enter Tryz.func6,Tryz.ntmps6
  go_wp2_with fail
  refine (sv_new _).mono ?_
  rintro e w1 ⟨ap,n1,cp,rfl,hs,hb⟩
  obtain ⟨V,hV⟩:∃ V,V = (w1.alloc (BSt (.slice ap n1 cp) (.slice none 0 0) (.slice none 0 0) 0)).alloc (BH2 0 1):=⟨_,rfl⟩
  obtain ⟨A,hA⟩:∃ n,w1.heap.size = n:=⟨_,rfl⟩
  obtain ⟨R,hR⟩:∃ n,w1.heap.size + 1 = n:=⟨_,rfl⟩
  have HAR:Hid (w1.heap.size = A/\w1.heap.size + 1 = R):=⟨hA,hR⟩
  have hbv:Below w1.heap.size w1 V:=by rw [hV];exact two_st _ _ _
  have HS:Hid (Sv V (.slice ap n1 cp) (.slice none 0 0) It.new []):=hs.up hbv
  have HB:Hid (Below w.heap.size w V):=hb.trans (hbv.mono hb.size)
  have JA:Hid (V.heap[A]? = some (BSt (.slice ap n1 cp) (.slice none 0 0) (.slice none 0 0) 0)):=by show _ = _;rw [hV,← hA];exact (Below.heap_alloc _ _ _ (by simp)).trans (heap_alloc_new _ _)
  have JR:Hid (V.heap[R]? = some (BH2 0 1)):=by show _ = _;rw [hV,← hR];have h:=heap_alloc_new (w1.alloc (BSt (.slice ap n1 cp) (.slice none 0 0) (.slice none 0 0) 0)) (BH2 0 1);simpa using h
  have hwA:w.heap.size<=A:=by rw [← hA];exact hb.size
  have hRA:R≠A:=by omega
  clear hs hb hbv hA hR
  go_wp2_with fail
  rw [← hV,HAR.out.2,HAR.out.1]
  clear hV HAR
  refine (sv_do (c:=⟨3,0,1,0,0,Nf.xM,Nf.e0,0,0,Nf.e0⟩) HS.out Nf.rx_new (by unfold fits maxLen;decide) (Nf.first_s Nf.okM (by decide) (by decide)).1 (Nf.first_s Nf.okM (by decide) (by decide)).2.1 (Nf.first_s Nf.okM (by decide) (by decide)).2.2.1 (Nf.first_s Nf.okM (by decide) (by decide)).2.2.2.1).mono ?_
  rintro e w2 ⟨ep,en,ec,up,un,uc,op,on,oc,rfl,hs,-,hb⟩
  have HS2:Hid (Sv w2 (.slice up un uc) (.slice op on oc) (Nf.F1s Nf.xM) []):=hs
  have JA2:Hid (w2.heap[A]? = some (BSt (.slice ap n1 cp) (.slice none 0 0) (.slice none 0 0) 0)):=(hb.block _ (qL JA.out)).trans JA.out
  have JR2:Hid (w2.heap[R]? = some (BH2 0 1)):=(hb.block _ (qL JR.out)).trans JR.out
  have HB2:Hid (Below w.heap.size w w2):=HB.out.trans (hb.mono HB.out.size)
  clear hs hb HS JA JR HB
  obtain ⟨t0,t1,t2,t3⟩:=st_of JA2.out
  have tf:=fr_at JA2.out
  have k0:=cell_at JR2.out 0
  have k1:=cell_at JR2.out 1
  simp at k0 k1
  have hl7:A < w2.heap.size:=(qL JA2.out)
  have hlr:R < w2.heap.size:=(qL JR2.out)
  go_wp2_with fail
  obtain ⟨U,hU⟩:∃ U,U = ((((w2.setCell ⟨A,0,none⟩ (.slice up un uc)).setCell ⟨A,1,none⟩ (.slice op on oc)).setCell ⟨A,2,none⟩ (.slice none 0 0)).setCell ⟨A,3,none⟩ (.int .i64 1)).alloc (BRl ⟨0,1,1,1,1,0,1,Nf.e0,[],0⟩ (.slice ep en ec)):=⟨_,rfl⟩
  obtain ⟨B,hB⟩:∃ n,n = w2.heap.size:=⟨_,rfl⟩
  obtain ⟨n1,n2,n3,n4,n5,n6⟩:=box_next (D:=1) (o:=BRl ⟨0,1,1,1,1,0,1,Nf.e0,[],0⟩ (.slice ep en ec)) JA2.out HS2.out hU
  have JA3:Hid (U.heap[A]? = some (BSt (.slice up un uc) (.slice op on oc) (.slice none 0 0) 1)):=n1
  have JB3:Hid (U.heap[B]? = some (BRl ⟨0,1,1,1,1,0,1,Nf.e0,[],0⟩ (.slice ep en ec))):=by show _ = _;rw [hB];exact n2
  have HS3:Hid (Sv U (.slice up un uc) (.slice op on oc) (Nf.F1s Nf.xM) []):=n3
  have JR3:Hid (U.heap[R]? = some (BH2 0 1)):=(n4 _ hlr hRA).trans JR2.out
  have HB3:Hid (Below w.heap.size w U):=n6 hwA HB2.out.size HB2.out
  have hBA:B≠A:=by omega
  rw [← hU,← hB]
  clear hU hB n1 n2 n3 n4 n5 n6 JA2 JR2 HS2 HB2 t0 t1 t2 t3 tf k0 k1 hl7 hlr
  obtain ⟨⟨we,wno,wgen,wk,wlk,ws,wst,wd,wen,wn⟩,T,Rn,S,q1,q2,q3,q4,q5,q6,q7,q8,q9⟩:=Nf.wrote ⟨HG.out.2.1,HG.out.2.2.1⟩ HG.out.2.2.2
  have q5':we = 0:=q5
  subst q5'
  have HW6:Hid (d.size≠0->ws = a + d.size):=q6
  have HI:Hid (Nf.RX T [] 2 (fun _=>False)/\Nf.Mine T Rn S):=⟨q7,q8⟩
  have HRD:Hid (Nf.Rd Rn S a d):=q9
  refine (sv_do (c:=Nf.cW a d) HS3.out (Nf.first_s Nf.okM (by decide) (cl:=0) (by decide)).2.2.2.2 ⟨e0_le,e0_le,by show d.size<=_;unfold maxLen;omega⟩ q1 q2 q3 q4).mono ?_
  rintro e w3 ⟨ep4,en4,ec4,up4,un4,uc4,op4,on4,oc4,rfl,hs,-,hb⟩
  have HS4:Hid (Sv w3 (.slice up4 un4 uc4) (.slice op4 on4 oc4) T []):=hs
  have JA4:Hid (w3.heap[A]? = some (BSt (.slice up un uc) (.slice op on oc) (.slice none 0 0) 1)):=(hb.block _ (qL JA3.out)).trans JA3.out
  have JB4:Hid (w3.heap[B]? = some (BRl ⟨0,1,1,1,1,0,1,Nf.e0,[],0⟩ (.slice ep en ec))):=(hb.block _ (qL JB3.out)).trans JB3.out
  have JR4:Hid (w3.heap[R]? = some (BH2 0 1)):=(hb.block _ (qL JR3.out)).trans JR3.out
  have HB4:Hid (Below w.heap.size w w3):=HB3.out.trans (hb.mono HB3.out.size)
  clear hs hb q1 q2 q3 q4 q5 q6 q7 q8 q9 HS3 JA3 JB3 JR3 HB3
  obtain ⟨t0,t1,t2,t3⟩:=st_of JA4.out
  have tf:=fr_at JA4.out
  obtain ⟨r0,r1,r2,r3,r4,r5,r6,r7,r8,r9⟩:=rp_of JB4.out
  have hl7:A < w3.heap.size:=(qL JA4.out)
  have hlr:R < w3.heap.size:=(qL JR4.out)
  have hlb:B < w3.heap.size:=(qL JB4.out)
  have hsp:(d.toList = []/\True)∨(¬ d.toList = []/\(ws != a + (d.size:Int)) = false):=by
   by_cases hz:d.toList = []
   ·exact .inl ⟨hz,trivial⟩
   ·refine .inr ⟨hz,?_⟩
    rw [HW6.out fun h0=>hz (by rw [ByteArray.toList_eq];exact List.length_eq_zero_iff.1 h0)]
    exact bne_self_eq_false _
  rcases hsp with ⟨hz,-⟩ | ⟨hz,hws⟩
  all_goals
   go_wp2_with fail
   clear hz
   obtain ⟨U,hU⟩:∃ U,U = ((((w3.setCell ⟨A,0,none⟩ (.slice up4 un4 uc4)).setCell ⟨A,1,none⟩ (.slice op4 on4 oc4)).setCell ⟨A,2,none⟩ (.slice none 0 0)).setCell ⟨A,3,none⟩ (.int .i64 2)).alloc (BRl ⟨0,wno,wgen,wk,wlk,ws,wst,wd,wen,wn⟩ (.slice ep4 en4 ec4)):=⟨_,rfl⟩
   obtain ⟨n1,n2,n3,n4,n5,n6⟩:=box_next (D:=2) (o:=BRl ⟨0,wno,wgen,wk,wlk,ws,wst,wd,wen,wn⟩ (.slice ep4 en4 ec4)) JA4.out HS4.out hU
   have JA5:Hid (U.heap[A]? = some (BSt (.slice up4 un4 uc4) (.slice op4 on4 oc4) (.slice none 0 0) 2)):=n1
   have HS5:Hid (Sv U (.slice up4 un4 uc4) (.slice op4 on4 oc4) T []):=n3
   have JB5:Hid (U.heap[B]? = some (BRl ⟨0,1,1,1,1,0,1,Nf.e0,[],0⟩ (.slice ep en ec))):=(n4 _ hlb hBA).trans JB4.out
   have JR5:Hid (U.heap[R]? = some (BH2 0 1)):=(n4 _ hlr hRA).trans JR4.out
   have HB5:Hid (Below w.heap.size w U):=n6 hwA HB4.out.size HB4.out
   rw [← hU]
   clear hU n1 n2 n3 n4 n5 n6 JA4 JB4 JR4 HS4 HB4 t0 t1 t2 t3 tf r0 r1 r2 r3 r4 r5 r6 r7 r8 r9 hl7 hlr hlb
   go_loopw [76] (fun i wr=>∃ (k:Nat) (p q:Option Addr) (m z m2 z2:Nat) (D:Int) (T:List Ino) (O:List Os.Opn),k<=N/\i = .int .i64 k/\Hid (wr.heap[A]? = some (BSt (.slice p m z) (.slice q m2 z2) (.slice none 0 0) D))/\Hid (Sv wr (.slice p m z) (.slice q m2 z2) T O)/\Hid (Nf.RX T O D (fun _=>False)/\Nf.Mine T Rn S/\2<=D/\D<=2 + k)/\Hid (wr.heap[B]? = some (BRl ⟨0,1,1,1,1,0,1,Nf.e0,[],0⟩ (.slice ep en ec)))/\Hid (wr.heap[R]? = some (BH2 0 1))/\Hid (Below w.heap.size w wr)) (fun i _=>N - (intOf i).toNat)
   case atStart=>exact ⟨0,_,_,_,_,_,_,2,T,[],Nat.zero_le _,rfl,JA5,HS5,⟨HI.out.1,HI.out.2,by decide,by decide⟩,JB5,JR5,HB5⟩
   case round =>
    obtain ⟨k,p,q,m,z,m2,z2,D,T,O,hk,rfl,JA,HS,HI,JB,JR,HB⟩:=hrel
    have hsz:=HB.out.size
    by_cases hlt:k < N
    ·obtain ⟨x,hxk⟩:∃ x,l[k]? = some x:=⟨_,List.getElem?_eq_getElem (by rw [HN.out];exact hlt)⟩
     obtain ⟨b,off,rfl,-,hbl,hc⟩:=HX.out k x hxk
     have HSX:Hid (fits x.2):=HF.out x (List.mem_of_getElem? hxk)
     obtain ⟨cl,ck,cno,cgen,cno2,cgen2,cnm,cnm2,cpl,cn,cda⟩:=x
     have aa:=fun j u hj=>(HB.out.cell (p:=⟨b,off + (k * EDo.sz + j),none⟩) hbl).trans (hc j u hj)
     have c0:wr.cell? ⟨b,off + k * 11,none⟩ = some (.int .i64 cl):=aa 0 _ rfl
     have c1:wr.cell? ⟨b,off + k * 11 + 1,none⟩ = some (.int .i64 ck):=aa 1 _ rfl
     have c2:wr.cell? ⟨b,off + k * 11 + 2,none⟩ = some (.int .i64 cno):=aa 2 _ rfl
     have c3:wr.cell? ⟨b,off + k * 11 + 3,none⟩ = some (.int .i64 cgen):=aa 3 _ rfl
     have c4:wr.cell? ⟨b,off + k * 11 + 4,none⟩ = some (.int .i64 cno2):=aa 4 _ rfl
     have c5:wr.cell? ⟨b,off + k * 11 + 5,none⟩ = some (.int .i64 cgen2):=aa 5 _ rfl
     have c6:wr.cell? ⟨b,off + k * 11 + 6,none⟩ = some (.string cnm):=aa 6 _ rfl
     have c7:wr.cell? ⟨b,off + k * 11 + 7,none⟩ = some (.string cnm2):=aa 7 _ rfl
     have c8:wr.cell? ⟨b,off + k * 11 + 8,none⟩ = some (.int .i64 cpl):=aa 8 _ rfl
     have c9:wr.cell? ⟨b,off + k * 11 + 9,none⟩ = some (.int .i64 cn):=aa 9 _ rfl
     have c10:wr.cell? ⟨b,off + k * 11 + 10,none⟩ = some (.string cda):=aa 10 _ rfl
     clear aa hc hxk
     have hlt':(k:Int) < (N:Int):=by omega
     obtain ⟨t0,t1,t2,t3⟩:=st_of JA.out
     have tf:=fr_at JA.out
     obtain ⟨r0,r1,r2,r3,r4,r5,r6,r7,r8,r9⟩:=rp_of JB.out
     have hl7:A < wr.heap.size:=(qL JA.out)
     have hlr:R < wr.heap.size:=(qL JR.out)
     have hlb:B < wr.heap.size:=(qL JB.out)
     obtain ⟨RR,hRR⟩:∃ R,Nf.doR T O D cl ⟨ck,cno,cgen,cno2,cgen2,cnm,cnm2,cpl,cn,cda⟩ = R:=⟨_,rfl⟩
     obtain ⟨TT,hTT⟩:∃ R,Nf.doT T O D cl ⟨ck,cno,cgen,cno2,cgen2,cnm,cnm2,cpl,cn,cda⟩ = R:=⟨_,rfl⟩
     obtain ⟨QQ,hQQ⟩:∃ R,Nf.doO T O D cl ⟨ck,cno,cgen,cno2,cgen2,cnm,cnm2,cpl,cn,cda⟩ = R:=⟨_,rfl⟩
     obtain ⟨DD,hDD⟩:∃ R,Nf.doD T O D cl = R:=⟨_,rfl⟩
     have hall:=Nf.do_all (cl:=cl) (c:=⟨ck,cno,cgen,cno2,cgen2,cnm,cnm2,cpl,cn,cda⟩) HI.out.1
     have hdd:=Nf.doD_or (L:=T) (O:=O) (dn:=D) (cl:=cl)
     rw [hTT,hQQ,hDD] at hall
     rw [hDD] at hdd
     have HC:Hid (∀ W':World,Sv W' (.slice p m z) (.slice q m2 z2) T O->Calls Tryz.prog 11 #[VSt (.slice p m z) (.slice q m2 z2) (.slice none 0 0) D,.int .i64 cl,Ks.VC ⟨ck,cno,cgen,cno2,cgen2,cnm,cnm2,cpl,cn,cda⟩] W' fun e w'=>∃ ep en ec up un uc op on oc,e = .returned (.tuple #[VSt (.slice up un uc) (.slice op on oc) (.slice none 0 0) DD,VR RR (.slice ep en ec)])/\Sv w' (.slice up un uc) (.slice op on oc) TT QQ/\AtW EE w' (.slice ep en ec) RR.ents/\Below W'.heap.size W' w'):=fun W' h=>sv_do (c:=⟨ck,cno,cgen,cno2,cgen2,cnm,cnm2,cpl,cn,cda⟩) h HI.out.1 HSX.out hRR hTT hQQ hDD
     have HX2:Hid (Nf.RX TT QQ DD (fun _=>False)):=hall.1
     have HMI:Hid (¬ (cno = 1/\cgen = 1)->¬ (cnm = Nf.xM/\(ck = 9∨ck = 11))->Nf.Mine TT Rn S):=Nf.mine_did HI.out.1.sp HI.out.2.1 hall.2.1
     have HD2:Hid (2<=DD/\DD<=2 + ((k + 1:Nat):Int)):=by
      show 2<=DD/\DD<=_
      have h1:=HI.out.2.2
      omega
     clear hRR hTT hQQ hDD hall hdd HSX
     go_wp2_with fail
     all_goals first
      | (
       go_roundw
       case rel=>exact ⟨k + 1,p,q,m,z,m2,z2,D,T,O,by omega,by go_num,((two_st _ _ _).block _ hl7).trans JA.out,HS.out.up (two_st _ _ _),⟨HI.out.1,HI.out.2.1,HI.out.2.2.1,by have h:=HI.out.2.2.2;omega⟩,((two_st _ _ _).block _ hlb).trans JB.out,((two_st _ _ _).block _ hlr).trans JR.out,HB.out.trans ((two_st _ _ _).mono hsz)⟩
       case measure=>simp [intOf];omega)
      | (
       have hmi:Nf.Mine TT Rn S:=HMI.out (by omega) (fun h=>by
        obtain ⟨h1,h2⟩:=h
        have h3:cnm.toList = [109,105,110,101]:=by rw [ByteArray.toList_eq,h1]
        first | contradiction | (rename_i hq;rcases h2 with h2 | h2 <;> (subst h2;first | contradiction | exact absurd hq.2 (by decide) | exact absurd hq.1 (by decide))))
       try (have e1:cno = 1:=(by assumption);subst e1)
       with_reducible refine (HC.out _ (HS.out.up (two_st wr _ _))).mono ?_
       rintro e w4 ⟨ep5,en5,ec5,up5,un5,uc5,op5,on5,oc5,rfl,hs,-,hb⟩
       have hb2:Below wr.heap.size wr w4:=(two_st _ _ _).trans (hb.mono (two_st _ _ _).size)
       have HS6:Hid (Sv w4 (.slice up5 un5 uc5) (.slice op5 on5 oc5) TT QQ):=hs
       have JA6:Hid (w4.heap[A]? = some (BSt (.slice p m z) (.slice q m2 z2) (.slice none 0 0) D)):=(hb2.block _ hl7).trans JA.out
       have JB6:Hid (w4.heap[B]? = some (BRl ⟨0,1,1,1,1,0,1,Nf.e0,[],0⟩ (.slice ep en ec))):=(hb2.block _ hlb).trans JB.out
       have JR6:Hid (w4.heap[R]? = some (BH2 0 1)):=(hb2.block _ hlr).trans JR.out
       have HB6:Hid (Below w.heap.size w w4):=HB.out.trans (hb2.mono hsz)
       have HMI2:Hid (Nf.Mine TT Rn S):=hmi
       have hq7:A < w4.heap.size:=(qL JA6.out)
       have hqr:R < w4.heap.size:=(qL JR6.out)
       have hqb:B < w4.heap.size:=(qL JB6.out)
       clear hs hb hb2 hmi t0 t1 t2 t3 tf r0 r1 r2 r3 r4 r5 r6 r7 r8 r9 hl7 hlr hlb c0 c1 c2 c3 c4 c5 c6 c7 c8 c9 c10 hsz
       obtain ⟨t0,t1,t2,t3⟩:=st_of JA6.out
       have tf:=fr_at JA6.out
       go_wp2
       go_roundw
       case rel =>
        have hn:=box_two (D:=DD) (o:=BSt (.slice up5 un5 uc5) (.slice op5 on5 oc5) (.slice none 0 0) DD) (o2:=BRl RR (.slice ep5 en5 ec5)) JA6.out HS6.out rfl
        exact ⟨k + 1,up5,op5,un5,uc5,on5,oc5,DD,TT,QQ,by omega,by go_num,hn.1,hn.2.1,⟨HX2.out,HMI2.out,HD2.out.1,HD2.out.2⟩,(hn.2.2.1 _ hqb hBA).trans JB6.out,(hn.2.2.1 _ hqr hRA).trans JR6.out,hn.2.2.2 hwA HB6.out.size HB6.out⟩
       case measure=>simp [intOf];omega)
    ·obtain rfl:k = N:=by omega
     obtain ⟨t0,t1,t2,t3⟩:=st_of JA.out
     have tf:=fr_at JA.out
     have k0:=cell_at JR.out 0
     have k1:=cell_at JR.out 1
     simp at k0 k1
     obtain ⟨⟨fe,fno,fgen,fk,fl,fs,fst,fd,fen,fn⟩,hF⟩:∃ R,Nf.doR T O D 1 Nf.cL = R:=⟨_,rfl⟩
     have hd1:D≠1099511627776:=by have h:=HI.out.2.2.2;have h2:=HG.out.1;omega
     obtain ⟨f1,f2,f3,f4,f5,f6⟩:=Nf.looked HI.out.1 hd1 HI.out.2.1
     rw [hF] at f1 f2 f3
     have f1':fe = 0:=f1
     have f2':fno = 1:=f2
     have f3':fgen = 1:=f3
     subst f1' f2' f3'
     have hxd:=(Nf.do_all (cl:=1) (c:=Nf.cL) HI.out.1).1
     rw [f4,f5,f6] at hxd
     have HX7:Hid (Nf.RX T O (D + 1) (fun _=>False)):=hxd
     go_wp2_with fail
     refine (sv_do (c:=Nf.cL) HS.out HI.out.1 ⟨by decide,by decide,by decide⟩ hF f4 f5 f6).mono ?_
     rintro e w5 ⟨ep6,en6,ec6,up6,un6,uc6,op6,on6,oc6,rfl,hs,-,hb⟩
     have HS7:Hid (Sv w5 (.slice up6 un6 uc6) (.slice op6 on6 oc6) T O):=hs
     have JA7:Hid (w5.heap[A]? = some (BSt (.slice p m z) (.slice q m2 z2) (.slice none 0 0) D)):=(hb.block _ (qL JA.out)).trans JA.out
     have JB7:Hid (w5.heap[B]? = some (BRl ⟨0,1,1,1,1,0,1,Nf.e0,[],0⟩ (.slice ep en ec))):=(hb.block _ (qL JB.out)).trans JB.out
     have HB7:Hid (Below w.heap.size w w5):=HB.out.trans (hb.mono HB.out.size)
     clear hs hb t0 t1 t2 t3 tf k0 k1 hF f1 f2 f3 f4 f5 f6 hxd
     obtain ⟨t0,t1,t2,t3⟩:=st_of JA7.out
     have tf:=fr_at JA7.out
     obtain ⟨r0,r1,r2,r3,r4,r5,r6,r7,r8,r9⟩:=rp_of JB7.out
     have hq7:A < w5.heap.size:=(qL JA7.out)
     have hqb:B < w5.heap.size:=(qL JB7.out)
     go_wp2_with fail
     obtain ⟨U,hU⟩:∃ U,U = ((((w5.setCell ⟨A,0,none⟩ (.slice up6 un6 uc6)).setCell ⟨A,1,none⟩ (.slice op6 on6 oc6)).setCell ⟨A,2,none⟩ (.slice none 0 0)).setCell ⟨A,3,none⟩ (.int .i64 (D + 1))).alloc (BRl ⟨0,1,1,fk,fl,fs,fst,fd,fen,fn⟩ (.slice ep6 en6 ec6)):=⟨_,rfl⟩
     obtain ⟨C,hC⟩:∃ n,n = w5.heap.size:=⟨_,rfl⟩
     obtain ⟨n1,n2,n3,n4,n5,n6⟩:=box_next (D:=D + 1) (o:=BRl ⟨0,1,1,fk,fl,fs,fst,fd,fen,fn⟩ (.slice ep6 en6 ec6)) JA7.out HS7.out hU
     have JA8:Hid (U.heap[A]? = some (BSt (.slice up6 un6 uc6) (.slice op6 on6 oc6) (.slice none 0 0) (D + 1))):=n1
     have JC8:Hid (U.heap[C]? = some (BRl ⟨0,1,1,fk,fl,fs,fst,fd,fen,fn⟩ (.slice ep6 en6 ec6))):=by show _ = _;rw [hC];exact n2
     have HS8:Hid (Sv U (.slice up6 un6 uc6) (.slice op6 on6 oc6) T O):=n3
     have JB8:Hid (U.heap[B]? = some (BRl ⟨0,1,1,1,1,0,1,Nf.e0,[],0⟩ (.slice ep en ec))):=(n4 _ hqb hBA).trans JB7.out
     have HB8:Hid (Below w.heap.size w U):=n6 hwA HB7.out.size HB7.out
     have hCA:C≠A:=by omega
     rw [← hU,← hC]
     clear hU hC n1 n2 n3 n4 n5 n6 JA7 JB7 HS7 HB7 t0 t1 t2 t3 tf r0 r1 r2 r3 r4 r5 r6 r7 r8 r9 hq7 hqb
     obtain ⟨⟨ge,gno,ggen,gk,gl,gs,gst,gd,gen,gn⟩,hF⟩:∃ R,Nf.doR T O (D + 1) 2 (Nf.cR' a) = R:=⟨_,rfl⟩
     obtain ⟨f1,f2,f3⟩:=Nf.readd (d:=d) ⟨HG.out.2.1,HG.out.2.2.1⟩ HX7.out (by have h:=HI.out.2.2.2;have h2:=HG.out.1;omega) HI.out.2.1 HRD.out
     rw [hF] at f1 f2
     have f1':ge = 0:=f1
     have f2':gd = d:=f2
     subst f1' f2'
     refine (sv_do (c:=Nf.cR' a) HS8.out HX7.out ⟨e0_le,e0_le,e0_le⟩ hF rfl rfl f3).mono ?_
     rintro e w6 ⟨ep7,en7,ec7,up7,un7,uc7,op7,on7,oc7,rfl,hs,-,hb⟩
     have HS9:Hid (Sv w6 (.slice up7 un7 uc7) (.slice op7 on7 oc7) _ _):=hs
     have JA9:Hid (w6.heap[A]? = some (BSt (.slice up6 un6 uc6) (.slice op6 on6 oc6) (.slice none 0 0) (D + 1))):=(hb.block _ (qL JA8.out)).trans JA8.out
     have JB9:Hid (w6.heap[B]? = some (BRl ⟨0,1,1,1,1,0,1,Nf.e0,[],0⟩ (.slice ep en ec))):=(hb.block _ (qL JB8.out)).trans JB8.out
     have JC9:Hid (w6.heap[C]? = some (BRl ⟨0,1,1,fk,fl,fs,fst,fd,fen,fn⟩ (.slice ep6 en6 ec6))):=(hb.block _ (qL JC8.out)).trans JC8.out
     have HB9:Hid (Below w.heap.size w w6):=HB8.out.trans (hb.mono HB8.out.size)
     have hD4:(4:Int)<=D + 1 + 1:=by have h:=HI.out.2.2.1;omega
     clear hs hb hF f1 f2 f3 JA8 JB8 JC8 HS8 HB8
     obtain ⟨t0,t1,t2,t3⟩:=st_of JA9.out
     have tf:=fr_at JA9.out
     obtain ⟨r0,r1,r2,r3,r4,r5,r6,r7,r8,r9⟩:=rp_of JB9.out
     obtain ⟨s0,s1,s2,s3,s4,s5,s6,s7,s8,s9⟩:=rp_of JC9.out
     have hq7:A < w6.heap.size:=(qL JA9.out)
     have hqb:B < w6.heap.size:=(qL JB9.out)
     have hqc:C < w6.heap.size:=(qL JC9.out)
     go_wp2_with fail
     refine (orphan_any _).mono ?_
     rintro e w7 ⟨rfl,hb⟩
     have hn:=box_next (D:=D + 1 + 1) (o:=BRl ⟨0,gno,ggen,gk,gl,gs,gst,gd,gen,gn⟩ (.slice ep7 en7 ec7)) JA9.out HS9.out rfl
     have HBZ:Hid (Below w.heap.size w w7):=(hn.2.2.2.2.2 hwA HB9.out.size HB9.out).trans (hb.mono (Nat.le_trans HB9.out.size hn.2.2.2.2.1))
     clear hb hn
     go_wp2
     go_ret
     exact ⟨rfl,HBZ.out⟩
 ·have hor:(120:Int) < (N:Int)∨(¬ (120:Int) < (N:Int)/\a < 0)∨(¬ (120:Int) < (N:Int)/\¬ a < 0/\1048064 < a)∨(¬ (120:Int) < (N:Int)/\¬ a < 0/\¬ 1048064 < a/\(512:Int) < (d.size:Int)):=by omega
  clear hg
  rcases hor with g1 | ⟨g1,g2⟩ | ⟨g1,g2,g3⟩ | ⟨g1,g2,g3,g4⟩
  all_goals
   go_enter Tryz.func6,Tryz.ntmps6
   go_wp2_with fail
   refine (orphan_any _).mono ?_
   rintro e w1 ⟨rfl,hb⟩
   go_wp2
   go_ret
   exact ⟨rfl,hb⟩
end Go.Proofs.YtneojimodomohaaGreat
