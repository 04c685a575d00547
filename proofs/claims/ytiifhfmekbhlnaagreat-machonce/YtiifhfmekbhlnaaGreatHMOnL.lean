/-
  The statement MachOnce: for every input the call answers true, and the input reads as it did.
-/
import Derived.ChangeMaps5
import Derived.Test.YtiifhfmekbhlnaaGreatRows
import Derived.Test.YtiifhfmekbhlnaaGreatH26
set_option maxHeartbeats 8000000
set_option maxRecDepth 100000
set_option linter.unusedSimpArgs false
namespace Go.Proofs.YtiifhfmekbhlnaaGreat
open ChangeShapes WideShapes ChangeAt RowKit Deep It
theorem Ew (lv:Value) (l:List Mc.q9) (body:ByteArray) (w:World) (h:ey tR w lv l) (hs:∀ y∈l,y.2.2.2.size<=140737488355328) :
  Calls Tryz.prog 3 #[lv,.string body] w λe w'=>e = .returned (.bool true)/\Below w.heap.size w w':=by
 obtain ⟨ao,cap,hlv,-,-⟩:=h.open
 subst hlv
 obtain ⟨N,hN⟩:∃ n,l.length = n:=⟨_,rfl⟩
 have HL:Hid (At tR (λ_=>True) w (.slice ao l.length cap) l):=h
 have HN:Hid (l.length=N):=hN
 rw [hN] at h |-
 have HTW:Hid (∀ V:World,Below w.heap.size w V->Calls Tryz.prog 7 #[] V λe w'=>e = .returned (.bool true)/\Below w.heap.size w w'):=λV hV=>(rz V).mono λ_ _ ⟨h1,h2⟩=>⟨h1,hV.trans (h2.mono hV.size)⟩
 have HLW:Hid (Calls Tryz.prog 6 #[.slice ao N cap] w λe w'=>(∃ b:Bool,e=.returned (.bool b)/\(b=false->Mc.Small l))/\Below w.1.size w w'):=oL _ l w h hs
 clear h hs hN
 go_enter Tryz.func3,Tryz.ntmps3
 go_wp2_with fail
 refine HLW.out.mono ?_
 rintro e w1 ⟨⟨bb,rfl,hsm⟩,hb1⟩
 have HB1:Hid (Below w.1.size w w1):=hb1
 clear hb1 HLW
 cases bb with
 | true =>
  go_wp2_with fail
  refine (HTW.out _ HB1.out).mono ?_
  rintro e w2 ⟨rfl,hb2⟩
  go_wp2
  go_ret
  exact ⟨rfl,hb2⟩
 | false =>
  have HSM:Hid (Mc.Small l):=hsm rfl
  clear hsm
  by_cases g1:(20000:Int) < (body.size:Int)
  ·go_wp2_with fail
   refine (HTW.out _ HB1.out).mono ?_
   rintro e w2 ⟨rfl,hb2⟩
   go_wp2
   go_ret
   exact ⟨rfl,hb2⟩
  go_wp2_with fail
  have HG:Hid (body.size<=1048576):=by show _<=_;omega
  clear g1
  refine (qu w1).mono ?_
  rintro e w2 ⟨ap,n,cp,L,rfl,hm2,hb2⟩
  obtain ⟨W,hW⟩:∃ V,V = w2.alloc (gB (.slice ap n cp) (.slice none 0 0) (.slice none 0 0) 0):=⟨_,rfl⟩
  obtain ⟨A,hA⟩:∃ n,n = w2.heap.size:=⟨_,rfl⟩
  have hbW:Below w2.heap.size w2 W:=by rw [hW];exact (MJ _ _).alloc (MI _) _
  have HM:Hid (Ms (λb=>b≠A) W (.slice ap n cp) (.slice none 0 0) (.slice none 0 0) L Mc.x0):=(hm2.low.up hbW).imp λb hb _=>by have:=hb.2;omega
  have HB:Hid (Below w.1.size w W):=(HB1.out.trans (hb2.mono HB1.out.size)).trans (hbW.mono (MS HB1.out.size hb2.size))
  have HX:Hid (W.1[A]?=some (gB (.slice ap n cp) (.slice none 0 0) (.slice none 0 0) 0)):=by show _=_;rw [hW,hA];exact MD _ _
  have hwA:w.heap.size<=A:=by have:=HB1.out.size;have:=hb2.size;omega
  have hnm:N<=100:=by have:=HSM.out.1;have:=HN.out;omega
  clear hm2 hb2 hbW HB1
  go_wp2_with fail
  rw [<-hW,<-hA]
  clear hW hA
  go_loopw [30] (λi wr=>∃ (k:Nat) (u p q:Value) (L:List Rw) (X:Sh.iF) (D:Int),k<=N/\i = .int .i64 k/\X.dn = D/\Hid (wr.heap[A]? = some (gB u p q D))/\Hid (Ms (λb=>b≠A) wr u p q L X)/\Hid (Mc.wh X = true/\X.dn<=k)/\Hid (Below w.heap.size w wr)) (λi _=>N - (intOf i).toNat)
  case atStart=>exact ⟨0,_,_,_,_,Mc.x0,0,MV _,rfl,rfl,HX.out,HM.out,⟨Mc.C9,Ng _⟩,HB.out⟩
  case round =>
   clear HX HM HB
   obtain ⟨k,u,p,q,L1,X,D0,hk,rfl,hD0,HX,HM,HW,HB⟩:=hrel
   by_cases hlt:k < N
   ·obtain ⟨y,hyk⟩:∃ y,l[k]? = some y:=⟨_,MF (by rw [HN.out];exact hlt)⟩
    have HBL:=HSM.out.2 y (MG hyk)
    obtain ⟨bk,off,hbk,hBk,c0,c1,c2,c3⟩:=pG HL.out hyk
    subst hbk
    obtain ⟨yv,cl,rq,yb⟩:=y
    have HYB:Hid _:=HBL
    simp only at c0 c1 c2 c3
    rw [<-HB.out.cell (p:=⟨bk,off + k * 4,none⟩) hBk] at c0
    rw [<-HB.out.cell (p:=⟨bk,off + k * 4 + 1,none⟩) hBk] at c1
    rw [<-HB.out.cell (p:=⟨bk,off + k * 4 + 2,none⟩) hBk] at c2
    rw [<-HB.out.cell (p:=⟨bk,off + k * 4 + 3,none⟩) hBk] at c3
    have hlt':(k:Int) < (N:Int):=by omega
    obtain ⟨⟨a1,n1,d1,rfl⟩,⟨a2,n2,d2,rfl⟩,a3,n3,d3,rfl⟩:=HM.out.mP
    obtain ⟨V,hV⟩:∃ V,V = wr.alloc (yP yv cl rq yb):=⟨_,rfl⟩
    obtain ⟨I,hI⟩:∃ n,n = wr.heap.size:=⟨_,rfl⟩
    have hbV:Below wr.heap.size wr V:=by rw [hV];exact (MJ _ _).alloc (MI _) _
    have HVI:Hid (V.1[I]?=some (yP yv cl rq yb)):=by show _=_;rw [hV,hI];exact MD _ _
    have HVA:Hid _:=cK HX.out hbV
    have HMV:Hid _:=HM.out.up hbV
    have HBV:=qJ HB hbV
    obtain ⟨x0,x1,x2,x3⟩:=dg HVA.out
    obtain ⟨y0,y1,y2,y3⟩:=iR HVI.out
    rw [hV] at x0 x1 x2 x3 y0 y1 y2 y3
    rw [hI] at y0 y1 y2 y3
    clear hyk hbV HBL HX HM
    have hdid:=Mc.LY (x:=X) (cl:=cl) (rq:=rq) yb body (by have:=HW.out.2;omega)
    have HDI:Hid _:=hdid
    clear hdid
    go_wp2_with fail
    rw [<-hV,<-hI]
    clear hV hI x0 x1 x2 x3 y0 y1 y2 y3 c0 c1 c2 c3
    have hd:=oA _ _ _ L1 X yv cl rq yb V HMV.out HYB.out
    rw [hD0] at hd
    refine hd.mono ?_
    clear hd
    rintro e w2 ⟨e1,m1,f1,e2,m2,f2,e3,m3,f3,L2,rfl,hm2,hb2⟩
    have hAV:=(qL HVA.out)
    have hIV:=(qL HVI.out)
    have HM2:Hid _:=hm2.imp λb hb _=>hb.elim id λh=>by omega
    generalize Mc.j8 X cl rq yb = T at HM2 HDI |-
    generalize Mc.kI X cl rq yb = rs at HDI |-
    generalize Mc.eP X cl rq = E at HDI |-
    obtain ⟨D,hD⟩:∃ D,T.dn = D:=⟨_,rfl⟩
    have HD:Hid _:=hD
    rw [hD]
    obtain ⟨V3,hV3⟩:∃ V,V = w2.alloc (gB (.slice e1 m1 f1) (.slice e2 m2 f2) (.slice e3 m3 f3) D):=⟨_,rfl⟩
    obtain ⟨J,hJ⟩:∃ n,n = w2.heap.size:=⟨_,rfl⟩
    have hb3:Below w2.heap.size w2 V3:=by rw [hV3];exact (MJ _ _).alloc (MI _) _
    have hbb3:Below V.1.size V V3:=hb2.trans (hb3.mono hb2.size)
    have H3A:Hid _:=cK HVA.out hbb3
    have H3I:Hid _:=cK HVI.out hbb3
    have H3J:Hid (V3.1[J]?=some (gB (.slice e1 m1 f1) (.slice e2 m2 f2) (.slice e3 m3 f3) D)):=by show _=_;rw [hV3,hJ];exact MD _ _
    have HM3:Hid _:=HM2.out.up hb3
    have HB3:=qJ HBV hbb3
    have H3O:Hid _:=HMV.out.up hbb3
    have hJA:J≠A:=by have:=hb2.size;omega
    clear hm2 hb2 hb3 hbb3 HM2 HVA HVI HMV HBV hD
    obtain ⟨x0,x1,x2,x3⟩:=dg H3A.out
    obtain ⟨y0,y1,y2,y3⟩:=iR H3I.out
    obtain ⟨z0,z1,z2,z3⟩:=dg H3J.out
    rw [hJ] at z0 z1 z2 z3
    rw [hV3] at x0 x1 x2 x3 y0 y1 y2 y3 z0 z1 z2 z3
    by_cases h0:E = 0
    ·subst h0
     have HDD:=HDI.out rfl
     have HKR:Hid _:=HDD
     have HKC:Hid (∀ V',Below V3.heap.size V3 V'->Calls Tryz.prog 10 #[iB (.slice e1 m1 f1) (.slice e2 m2 f2) (.slice e3 m3 f3) D,.int .i64 cl,.int .i64 rq] V' λe w'=>e = .returned (.tuple #[.string (Mc.Iw T cl rq),.bool (Mc.GN T cl rq)])/\Below V'.heap.size V' w'):=λV' hV'=>by
      have:=tT _ _ _ L2 T cl rq V' (HM3.out.up hV')
      rw [HD.out] at this
      exact this
     have HUC:Hid (∀ V',Below V3.heap.size V3 V'->∀ r',Calls Tryz.prog 9 #[iB (.slice e1 m1 f1) (.slice e2 m2 f2) (.slice e3 m3 f3) D,DH 0 cl r' body] V' λe w'=>∃ ua un uc pa pn pc qa qn qc L',e = .returned (.tuple #[iB (.slice ua un uc) (.slice pa pn pc) (.slice qa qn qc) (Mc.j8 T cl r' body).dn,.string (Mc.kI T cl r' body),.int .i64 (Mc.eP T cl r')])/\Ms (λ_=>True) w' (.slice ua un uc) (.slice pa pn pc) (.slice qa qn qc) L' (Mc.j8 T cl r' body)/\Below V'.heap.size V' w'):=λV' hV' r'=>by
      have:=oA _ _ _ L2 T 0 cl r' body V' (HM3.out.up hV') HG.out
      rw [HD.out] at this
      exact this.mono λ_ _ ⟨a1,a2,a3,a4,a5,a6,a7,a8,a9,L',h1,h2,h3⟩=>⟨a1,a2,a3,a4,a5,a6,a7,a8,a9,L',h1,h2.imp λ_ _ _=>trivial,h3⟩
     have HSC:Hid (∀ V',Below V3.heap.size V3 V'->∀ u p q M,Ms (λ_=>True) V' u p q M T->Calls Tryz.prog 11 #[iB u p q D,iB (.slice e1 m1 f1) (.slice e2 m2 f2) (.slice e3 m3 f3) D] V' λe w'=>e = .returned (.bool true)/\Below V'.heap.size V' w'):=λV' hV' u p q M hM=>by
      have:=tw hM (HM3.out.up hV')
      rw [HD.out] at this
      exact this
     have HFIN:Hid (∀ Z:World,Below V3.heap.size V3 Z->((((Z.setCell ⟨A,0,none⟩ (.slice e1 m1 f1)).setCell ⟨A,1,none⟩ (.slice e2 m2 f2)).setCell ⟨A,2,none⟩ (.slice e3 m3 f3)).setCell ⟨A,3,none⟩ (.int .i64 D)).heap[A]? = some (gB (.slice e1 m1 f1) (.slice e2 m2 f2) (.slice e3 m3 f3) D)/\Ms (λb=>b≠A) ((((Z.setCell ⟨A,0,none⟩ (.slice e1 m1 f1)).setCell ⟨A,1,none⟩ (.slice e2 m2 f2)).setCell ⟨A,2,none⟩ (.slice e3 m3 f3)).setCell ⟨A,3,none⟩ (.int .i64 D)) (.slice e1 m1 f1) (.slice e2 m2 f2) (.slice e3 m3 f3) L2 T/\Below w.heap.size w ((((Z.setCell ⟨A,0,none⟩ (.slice e1 m1 f1)).setCell ⟨A,1,none⟩ (.slice e2 m2 f2)).setCell ⟨A,2,none⟩ (.slice e3 m3 f3)).setCell ⟨A,3,none⟩ (.int .i64 D))):=λZ hZ =>
      ⟨show (Z.setCells A 0 (cS (.slice e1 m1 f1) (.slice e2 m2 f2) (.slice e3 m3 f3) D)).heap[A]? = _ from dO _ (cK H3A.out hZ) rfl,
       show Ms _ (Z.setCells A 0 (cS (.slice e1 m1 f1) (.slice e2 m2 f2) (.slice e3 m3 f3) D)) _ _ _ _ _ from (HM3.out.up hZ).set (λh=>h rfl) _ _,
       show Below _ _ (Z.setCells A 0 (cS (.slice e1 m1 f1) (.slice e2 m2 f2) (.slice e3 m3 f3) D)) from da hwA _ _ _ (HB3.out.trans (hZ.mono HB3.out.size))⟩
     have HEND:Hid (Mc.wh T = true/\T.dn<=((k + 1:Nat):Int)):=⟨HDD.wh,by have h1:=HDD.dn;have h2:=HW.out.2;omega⟩
     have hrq:=HDD.lo
     have t1:(rs.toList==rs.toList)=true:=OS _
     have t2:(rs.toList != rs.toList) = false:=by simp
     clear HDD HDI HM3 H3O
     go_wp2_with fail
     rw [<-hV3,<-hJ]
     clear hV3 hJ x0 x1 x2 x3 y0 y1 y2 y3 z0 z1 z2 z3
     refine (HKC.out _ (MJ _ _)).mono ?_
     rintro e w4 ⟨rfl,hb4⟩
     have HB4:Hid _:=hb4
     clear hb4 HKC
     obtain ⟨y0,y1,y2,y3⟩:=iR (cK H3I.out HB4.out)
     obtain ⟨z0,z1,z2,z3⟩:=dg (cK H3J.out HB4.out)
     obtain ⟨KB,hKB⟩:∃ b,Mc.GN T cl rq = b:=⟨_,rfl⟩
     cases KB with
     | false =>
      rw [hKB]
      generalize Mc.Iw T cl rq = KR
      clear hKB
      go_wp2_with fail
      refine (HUC.out _ HB4.out rq).mono ?_
      rintro e w5 ⟨g1,s1,o1,g2,s2,o2,g3,s3,o3,L5,rfl,-,hb5⟩
      generalize (Mc.j8 T cl rq body).dn = D5
      generalize Mc.kI T cl rq body = r5
      generalize Mc.eP T cl rq = E5
      clear y0 y1 y2 y3 z0 z1 z2 z3
      obtain ⟨V5,hV5⟩:∃ V,V = w5.alloc (gB (.slice g1 s1 o1) (.slice g2 s2 o2) (.slice g3 s3 o3) D5):=⟨_,rfl⟩
      have hb55:Below V3.heap.size V3 V5:=by rw [hV5];exact (HB4.out.trans (hb5.mono HB4.out.size)).alloc (MS HB4.out.size hb5.size) _
      have hf:=HFIN.out _ hb55
      have HF:Hid _:=hf
      clear hf
      have fa:=dw (cK H3A.out hb55)
      obtain ⟨x0,x1,x2,x3⟩:=dg (cK H3A.out hb55)
      obtain ⟨y0,y1,y2,y3⟩:=iR (cK H3I.out hb55)
      obtain ⟨z0,z1,z2,z3⟩:=dg (cK H3J.out hb55)
      rw [hV5] at HF x0 x1 x2 x3 y0 y1 y2 y3 z0 z1 z2 z3
      simp only [hV5] at fa
      clear hV5 hb5 hb55
      by_cases h1:1 < rq
      all_goals
       go_wp2
       go_roundw
       case rel=>exact ⟨k + 1,_,_,_,_,T,D,by omega,by go_num,HD.out,HF.out.1,HF.out.2.1,HEND.out,HF.out.2.2⟩
       case measure=>simp [intOf];omega
     | true =>
      obtain ⟨q1,q2,q3,q4⟩:=HKR.out.kn hKB
      have HPA:Hid _:=HKR.out.past hKB
      have HUD:=HUC.out _ HB4.out rq
      rw [q2,q3,q4,HD.out] at HUD
      rw [hKB,q1]
      clear hKB q1 q2 q3 q4
      go_wp2_with fail
      refine HUD.mono ?_
      clear HUD
      rintro e w5 ⟨g1,s1,o1,g2,s2,o2,g3,s3,o3,L5,rfl,hm5,hb5⟩
      clear y0 y1 y2 y3 z0 z1 z2 z3
      obtain ⟨V5,hV5⟩:∃ V,V = w5.alloc (gB (.slice g1 s1 o1) (.slice g2 s2 o2) (.slice g3 s3 o3) D):=⟨_,rfl⟩
      obtain ⟨J5,hJ5⟩:∃ n,n = w5.heap.size:=⟨_,rfl⟩
      have hbv:Below w5.heap.size w5 V5:=by rw [hV5];exact (MJ _ _).alloc (MI _) _
      have hb55:Below V3.1.size V3 V5:=(HB4.out.trans (hb5.mono HB4.out.size)).trans (hbv.mono (MS HB4.out.size hb5.size))
      have H5:Hid (V5.1[J5]?=some (gB (.slice g1 s1 o1) (.slice g2 s2 o2) (.slice g3 s3 o3) D)):=by show _=_;rw [hV5,hJ5];exact MD _ _
      have HM5:Hid _:=hm5.up hbv
      have HB5:Hid _:=hb55
      obtain ⟨y0,y1,y2,y3⟩:=iR (cK H3I.out hb55)
      obtain ⟨z0,z1,z2,z3⟩:=dg (cK H3J.out hb55)
      obtain ⟨v0,v1,v2,v3⟩:=dg H5.out
      rw [hJ5] at v0 v1 v2 v3
      rw [hV5] at y0 y1 y2 y3 z0 z1 z2 z3 v0 v1 v2 v3
      clear hb5 hb55 hbv hm5
      go_wp2_with fail
      rw [<-hV5]
      clear hV5 hJ5 y0 y1 y2 y3 z0 z1 z2 z3 v0 v1 v2 v3
      refine (HSC.out _ HB5.out _ _ _ _ HM5.out).mono ?_
      rintro e w6 ⟨rfl,hb6⟩
      have HB6:=qJ HB5 hb6
      clear hb6 HM5 HB5 H5
      obtain ⟨x0,x1,x2,x3⟩:=dg (cK H3A.out HB6.out)
      obtain ⟨y0,y1,y2,y3⟩:=iR (cK H3I.out HB6.out)
      obtain ⟨z0,z1,z2,z3⟩:=dg (cK H3J.out HB6.out)
      by_cases h1:1 < rq
      ·have hw1:wrap64 (rq - 1) = rq - 1:=by unfold wrap64;omega
       obtain ⟨p1,p2⟩:=HPA.out h1
       have HUD:=HUC.out _ HB6.out (rq - 1)
       rw [p1,p2,HD.out] at HUD
       clear p1 p2 x0 x1 x2 x3
       generalize Mc.kI T cl (rq - 1) body = r7 at HUD
       go_wp2_with fail
       (try rw [hw1])
       refine HUD.mono ?_
       clear HUD hw1
       rintro e w7 ⟨g1',s1',o1',g2',s2',o2',g3',s3',o3',L7,rfl,hm7,hb7⟩
       clear y0 y1 y2 y3 z0 z1 z2 z3
       obtain ⟨V7,hV7⟩:∃ V,V = w7.alloc (gB (.slice g1' s1' o1') (.slice g2' s2' o2') (.slice g3' s3' o3') D):=⟨_,rfl⟩
       obtain ⟨J7,hJ7⟩:∃ n,n = w7.heap.size:=⟨_,rfl⟩
       have hbv:Below w7.heap.size w7 V7:=by rw [hV7];exact (MJ _ _).alloc (MI _) _
       have hb77:Below V3.1.size V3 V7:=(HB6.out.trans (hb7.mono HB6.out.size)).trans (hbv.mono (MS HB6.out.size hb7.size))
       have H7:Hid (V7.1[J7]?=some (gB (.slice g1' s1' o1') (.slice g2' s2' o2') (.slice g3' s3' o3') D)):=by show _=_;rw [hV7,hJ7];exact MD _ _
       have HM7:Hid _:=hm7.up hbv
       have HB7:Hid _:=hb77
       obtain ⟨z0,z1,z2,z3⟩:=dg (cK H3J.out hb77)
       obtain ⟨v0,v1,v2,v3⟩:=dg H7.out
       rw [hJ7] at v0 v1 v2 v3
       rw [hV7] at z0 z1 z2 z3 v0 v1 v2 v3
       clear hb7 hb77 hbv hm7
       go_wp2_with fail
       rw [<-hV7]
       clear hV7 hJ7 z0 z1 z2 z3 v0 v1 v2 v3
       refine (HSC.out _ HB7.out _ _ _ _ HM7.out).mono ?_
       rintro e w8 ⟨rfl,hb8⟩
       have hb88:Below V3.1.size V3 w8:=HB7.out.trans (hb8.mono HB7.out.size)
       have hf:=HFIN.out _ hb88
       have HF:Hid _:=hf
       have fa:=dw (cK H3A.out hb88)
       obtain ⟨x0,x1,x2,x3⟩:=dg (cK H3A.out hb88)
       obtain ⟨z0,z1,z2,z3⟩:=dg (cK H3J.out hb88)
       clear hb8 hb88 hf HM7 HB7 H7
       go_wp2
       go_roundw
       case rel=>exact ⟨k + 1,_,_,_,_,T,D,by omega,by go_num,HD.out,HF.out.1,HF.out.2.1,HEND.out,HF.out.2.2⟩
       case measure=>simp [intOf];omega
      ·have hf:=HFIN.out _ HB6.out
       have HF:Hid _:=hf
       have fa:=dw (cK H3A.out HB6.out)
       clear hf
       go_wp2
       go_roundw
       case rel=>exact ⟨k + 1,_,_,_,_,T,D,by omega,by go_num,HD.out,HF.out.1,HF.out.2.1,HEND.out,HF.out.2.2⟩
       case measure=>simp [intOf];omega
    ·have t0:(E != 0) = true:=by simp [h0]
     have HWK:Hid (Mc.wh X = true/\X.dn<=((k + 1:Nat):Int)):=⟨HW.out.1,by have:=HW.out.2;omega⟩
     go_wp2
     rw [<-hV3]
     go_roundw
     case rel=>exact ⟨k + 1,_,_,_,_,X,D0,by omega,by go_num,hD0,H3A.out,H3O.out,HWK.out,HB3.out⟩
     case measure=>simp [intOf];omega
   ·obtain rfl:k = N:=by omega
    go_wp2_with fail
    refine (HTW.out _ HB.out).mono ?_
    rintro e w2 ⟨rfl,hb2⟩
    go_wp2
    go_ret
    exact ⟨rfl,hb2⟩
theorem tl (os : Os) (started : os.Started) (H : Type) (enc : TypeId × Value → H) :
    ReturnsInHanded {} Tryz.checked os 3 .any (Rows.machOnceSpec.pre6 enc Tryz.prog Tryz.f3 Rows.machOnceRow.domain false) (Rows.machOnceSpec.post enc Tryz.prog Tryz.f3 false true false false) := by
  refine returnsInHanded_of_change_sized (C := Tryz.checked) own started (by kernel_rfl) Tryz.func3
    (ChangeSpec.witness6 (enc := enc) (C := Tryz.checked) false ⟨#[], #[.slice none 0 0, .string ⟨#[]⟩], []⟩ 8 (by kernel_rfl) (by kernel_rfl) (by kernel_rfl) (by kernel_rfl)) ?_
  intro W base args ds gs before hval0 hW hcnd hsized _
  have hval : ∀ (j : Nat) t v, Tryz.f3.params[j]? = some t → args[j]? = some v → Value.okWide Tryz.prog W .any base t v := hval0
  have hW' := hW
  obtain ⟨p, q, hA0, hV, rfl, hfz, hnd⟩ := hW
  have hA : DataW.TrodAll enc Tryz.prog W 0 (λ_ => true) true Tryz.f3.params.toList args.toList ds p := hA0
  rw [Tryz.params3] at hA hval
  obtain ⟨v0, v1, d0, d1, p0, p1, rfl, rfl, rfl, h0, h1⟩ := trodAll_two hA
  obtain ⟨rfl, rfl⟩ := trodVars_none hV
  have hwt0 : ∀ n ∈ d0.weights Tryz.prog 22, n ≤ reachBytes := λn hn => by
    have := Ok.1 hsized n (DataW.weights_mem_each (j := 0) (t := 22) (d := d0) rfl rfl n hn)
    simpa using this
  obtain ⟨l0, hl0, hs0⟩ := mI (okWide_slice Tryz.underlying22 (hval 0 22 v0 rfl rfl)) h0 hwt0
  obtain ⟨b, rfl, rfl, rfl, hS⟩ := Go.ChangeMaps.open_string Tryz.underlying9 (hval 1 9 v1 rfl rfl) h1
  refine (Ew v0 l0 b W hl0 hs0).mono λe W' ⟨he, hg⟩ => ⟨_, he, ?_⟩
  exact Law.post laidOut (by kernel_rfl) rfl Tryz.underlying4 hW' rfl rfl hg
theorem machOnce_holds : Rows.MachOnceSaid :=
  OpenClaim.holds_of_wide 3 Tryz.f3 rfl rfl rfl rfl rfl rfl rfl ⟨rfl, rfl, rfl, rfl, rfl⟩ rfl rfl rfl rfl rfl (by kernel_rfl) Tryz.func3 (by kernel_rfl)
    (of_decide_eq_true (by kernel_rfl)) (by unfold Func.isWrapper; first | (rw [MC (by decide +kernel)]; kernel_rfl) | (rw [ME (by decide +kernel)]; exact ⟨rfl, rfl⟩))
    (λos started H enc _ => tl os started H enc)
#print axioms machOnce_holds
end Go.Proofs.YtiifhfmekbhlnaaGreat
