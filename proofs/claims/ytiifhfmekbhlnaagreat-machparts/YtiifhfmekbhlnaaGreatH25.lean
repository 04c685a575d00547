/- Part 25. -/
import Derived.Test.YtiifhfmekbhlnaaGreatH24
set_option maxHeartbeats 8000000
set_option maxRecDepth 100000
set_option linter.unusedSimpArgs false
namespace Go.Proofs.YtiifhfmekbhlnaaGreat
open ChangeShapes WideShapes ChangeAt RowKit Deep It
theorem jI {T:Nat->Prop}{w w5:World}{A:Nat}{vi vo vz:Value}{L:List Rw}{x:Sh.iF}(hA:w5.1[A]?=some sI)(hm:Ms T w5 vi vo vz L x)(hn:¬ T A)(hb:Bw w w5)(hw:w.1.size<=A) :
  (w5.setCells A 0 (cS vi vo vz x.dn)).1[A]?=some (gB vi vo vz x.dn)/\Ms T (w5.setCells A 0 (cS vi vo vz x.dn)) vi vo vz L x/\Bw w (w5.setCells A 0 (cS vi vo vz x.dn)) :=
 ⟨dO (cS vi vo vz x.dn) hA rfl,hm.set hn _ _,da hw _ _ _ hb⟩
theorem oA {S:Nat->Prop} (vi vo vz:Value) (L:List Rw) (x:Sh.iF) (v cl rq:Int) (b:ByteArray) (w:World) (h:Ms S w vi vo vz L x) (hb:b.size<=1048576) :
  Calls Tryz.prog 9 #[iB vi vo vz x.dn,DH v cl rq b] w λe w'=>∃ ua un uc pa pn pc qa qn qc L',e = .returned (.tuple #[iB (.slice ua un uc) (.slice pa pn pc) (.slice qa qn qc) (Mc.j8 x cl rq b).dn,.string (Mc.kI x cl rq b),.int .i64 (Mc.eP x cl rq)])/\Ms (λb=>S b\/w.heap.size<=b) w' (.slice ua un uc) (.slice pa pn pc) (.slice qa qn qc) L' (Mc.j8 x cl rq b)/\Below w.heap.size w w':=by
 obtain ⟨⟨ia,im,ic,rfl⟩,⟨oa,om,oc,rfl⟩,za,zm,zc,rfl⟩:=h.mP
 obtain ⟨W,hW⟩:∃ V,V = ((w.alloc (gB (.slice ia im ic) (.slice oa om oc) (.slice za zm zc) x.dn)).alloc (yP v cl rq b)).alloc sI:=⟨_,rfl⟩
 have HN:Hid _:=xu w (gB (.slice ia im ic) (.slice oa om oc) (.slice za zm zc) x.dn) (yP v cl rq b) sI
 rw [<-hW] at HN
 have HRF:Hid (Calls Tryz.prog 17 #[iB (.slice ia im ic) (.slice oa om oc) (.slice za zm zc) x.dn,DH v cl rq b] W λe w'=>e=.returned (.int .i64 (Mc.eP x cl rq))/\Below W.1.size W w'):=AN _ _ _ L x v cl rq b W (h.up HN.out.2.2.2.1)
 have HM:Hid (Ms (λb=>S b/\b<w.1.size) W (.slice ia im ic) (.slice oa om oc) (.slice za zm zc) L x):=h.low.up HN.out.2.2.2.1
 have HBS:Hid (b.size<=1048576):=hb
 obtain ⟨dn,hdn⟩:∃ d,x.dn = d:=⟨_,rfl⟩
 have HDN:Hid (x.dn=dn):=hdn
 rw [hdn] at hW HN HRF |-
 obtain ⟨x0,x1,x2,x3⟩:=dg HN.out.1
 obtain ⟨y0,y1,y2,y3⟩:=iR HN.out.2.1
 rw [hW] at x0 x1 x2 x3 y0 y1 y2 y3
 clear h hb hdn
 go_enter Tryz.func9,Tryz.ntmps9
 go_wp2_with fail
 rw [<-hW]
 clear hW x0 x1 x2 x3 y0 y1 y2 y3
 refine HRF.out.mono ?_
 rintro e w1 ⟨rfl,hb1⟩
 have hz:=HN.out.2.2.2.2
 have K0:Hid _:=cK HN.out.1 hb1
 have K1:Hid _:=cK HN.out.2.1 hb1
 have K2:Hid _:=cK HN.out.2.2.1 hb1
 have HB1:Hid _:=HN.out.2.2.2.1.trans (hb1.mono HN.out.2.2.2.1.size)
 have HM1:Hid _:=HM.out.up hb1
 have HZ:Hid (w.heap.size + 3<=w1.heap.size):=by have:=(qL K2.out);show _<=_;omega
 clear hb1 hz HN HM HRF
 obtain ⟨E,hE⟩:∃ E,Mc.eP x cl rq = E:=⟨_,rfl⟩
 have HE:Hid _:=hE
 rw [hE]
 clear hE
 by_cases h0:E = 0
 ·subst h0
  obtain ⟨x0,x1,x2,x3⟩:=dg K0.out
  obtain ⟨y0,y1,y2,y3⟩:=iR K1.out
  go_wp2_with fail
  refine (Es.mB _ x.Z cl rq w1 HM1.out.jB.wide).mono ?_
  rintro e w2 ⟨rfl,hb2⟩
  have J0:Hid _:=cK K0.out hb2
  have J1:Hid _:=cK K1.out hb2
  have J2:Hid _:=cK K2.out hb2
  have HB2:=qJ HB1 hb2
  have HM2:Hid _:=HM1.out.up hb2
  have HZ2:Hid _:=MS HZ.out hb2.size
  clear hb2 x0 x1 x2 x3 y0 y1 y2 y3 K0 K1 K2 HB1 HM1 HZ
  have HR:Hid (Mc.kI x cl rq b=if Es.Se.fp x.Z cl rq=1 then Mc.vH x cl b else if Es.Se.fp x.Z cl rq=2 then Es.Se.told x.Z cl rq else if Es.Se.fp x.Z cl rq=3 then Mc.bytes (Nf.bad 7) else Mc.bytes (Nf.bad 412)):=by
   show Mc.kI x cl rq b=_
   unfold Mc.kI
   rw [MC HE.out]
  have HX:Hid (Mc.j8 x cl rq b=if Es.Se.fp x.Z cl rq=1 then Mc.JD x cl rq b else x):=by
   show Mc.j8 x cl rq b=_
   unfold Mc.j8
   rw [MC HE.out]
  generalize Es.Se.fp x.Z cl rq = wt at HR HX |-
  generalize Es.Se.told x.Z cl rq = td at HR |-
  generalize Es.Se.fu x.Z cl rq = re
  by_cases h1:wt = 1
  ·subst h1
   have HX2:Hid (Mc.j8 x cl rq b = Mc.JD x cl rq b/\Mc.kI x cl rq b = Mc.vH x cl b):=⟨by rw [HX.out,MC rfl],by rw [HR.out,MC rfl]⟩
   obtain ⟨x0,x1,x2,x3⟩:=dg J0.out
   obtain ⟨y0,y1,y2,y3⟩:=iR J1.out
   clear HX HR
   go_wp2_with fail
   have hp:=xS _ _ _ L x v cl rq b w2 HM2.out HE.out HBS.out
   rw [HDN.out] at hp
   refine hp.mono ?_
   clear hp
   rintro e w3 ⟨ua,un,uc,pa,pn,pc,qa,qn,qc,L',rfl,hm3,hb3⟩
   have HM3:Hid _:=hm3
   have I0:Hid _:=cK J0.out hb3
   have I2:Hid _:=cK J2.out hb3
   have HB3:=qJ HB2 hb3
   clear hm3 hb3 x0 x1 x2 x3 y0 y1 y2 y3 J0 J1 J2 HB2 HM2
   obtain ⟨x0,x1,x2,x3⟩:=dg I0.out
   have f0:=dw I0.out
   obtain ⟨a0,a1,a2,a3⟩:=dg I2.out
   have fa:=dw I2.out
   have hz:=HZ2.out
   obtain ⟨D,hD⟩:∃ D,(Mc.JD x cl rq b).dn = D:=⟨_,rfl⟩
   have HD:Hid _:=hD
   rw [hD]
   obtain ⟨W4,hW4⟩:∃ V,V = w3.setCells w.heap.size 0 (cS (.slice ua un uc) (.slice pa pn pc) (.slice qa qn qc) D):=⟨_,rfl⟩
   have hA2:W4.heap[w.heap.size + 2]? = some sI:=by rw [hW4];exact (dq _ _ _ (by omega)).trans I2.out
   have hM4:Ms (λb=>(S b/\b < w.heap.size)\/w2.heap.size<=b) W4 (.slice ua un uc) (.slice pa pn pc) (.slice qa qn qc) L' (Mc.JD x cl rq b):=by rw [hW4];exact HM3.out.set (by rintro (h | h) <;> omega) _ _
   have hB4:Below w.heap.size w W4:=by rw [hW4];exact da (MI _) _ _ _ HB3.out
   obtain ⟨q1,q2,q3⟩:=jI (w:=w) hA2 hM4 (by rintro (h | h) <;> omega) hB4 (by omega)
   rw [hD] at q1 q2 q3
   have HF:Hid _:=And.intro q1 (And.intro (q2.imp (T:=λb=>S b\/w.heap.size<=b) λb h _=>h.imp And.left λh=>by omega) q3)
   have HE9:Hid ((((((((w3.setCell ⟨w.1.size,0,none⟩ (.slice ua un uc)).setCell ⟨w.1.size,1,none⟩ (.slice pa pn pc)).setCell ⟨w.1.size,2,none⟩ (.slice qa qn qc)).setCell ⟨w.1.size,3,none⟩ (.int .i64 D)).setCell ⟨w.1.size+2,0,none⟩ (.slice ua un uc)).setCell ⟨w.1.size+2,1,none⟩ (.slice pa pn pc)).setCell ⟨w.1.size+2,2,none⟩ (.slice qa qn qc)).setCell ⟨w.1.size+2,3,none⟩ (.int .i64 D)=W4.setCells (w.1.size+2) 0 (cS (.slice ua un uc) (.slice pa pn pc) (.slice qa qn qc) D)):=by show _=W4.setCells _ _ _;rw [hW4];rfl
   have hne:w.heap.size≠w.heap.size + 2:=by omega
   clear q1 q2 q3 hA2 hM4 hB4 hW4 HM3 I0 I2 HB3 hD
   go_wp2
   (try simp only[Exit.inBlock,Exit.then])
   rw [HE9.out]
   generalize W4.setCells (w.heap.size + 2) 0 (cS (.slice ua un uc) (.slice pa pn pc) (.slice qa qn qc) D) = WF at HF HE9 |-
   obtain ⟨d0,d1,d2,d3⟩:=dg HF.out.1
   refine MK (v:=.tuple #[iB (.slice ua un uc) (.slice pa pn pc) (.slice qa qn qc) D,.string (Mc.vH x cl b),.int .i64 0]) (by simp [results,Tryz.results9,go_sem,d0,d1,d2,d3]) rfl ⟨ua,un,uc,pa,pn,pc,qa,qn,qc,L',?_,?_,HF.out.2.2⟩
   ·rw [HX2.out.1,HX2.out.2,HD.out,HE.out]
   ·rw [HX2.out.1];exact HF.out.2.1
  ·have HX2:Hid (Mc.j8 x cl rq b=x):=by show _=_;rw [HX.out,ME h1]
   have u1:(wt==1)=false:=MQ.2 h1
   by_cases h2:wt = 2
   ·subst h2
    have HR2:Hid (Mc.kI x cl rq b=td):=by show _=_;rw [HR.out,ME h1,MC rfl]
    clear HR HX u1 h1
    obtain ⟨x0,x1,x2,x3⟩:=dg J0.out
    obtain ⟨a0,a1,a2,a3⟩:=dg J2.out
    have fa:=dw J2.out
    have hz:=HZ2.out
    obtain ⟨q1,q2,q3⟩:=jI (w:=w) J2.out HM2.out (by rintro ⟨-,h⟩;omega) HB2.out (by omega)
    rw [HDN.out] at q1 q2 q3
    have HF:Hid _:=And.intro q1 (And.intro (q2.imp (T:=λb=>S b\/w.heap.size<=b) λb h _=>.inl h.1) q3)
    have HE9:Hid ((((w2.setCell ⟨w.heap.size + 2,0,none⟩ (.slice ia im ic)).setCell ⟨w.heap.size + 2,1,none⟩ (.slice oa om oc)).setCell ⟨w.heap.size + 2,2,none⟩ (.slice za zm zc)).setCell ⟨w.heap.size + 2,3,none⟩ (.int .i64 dn) = w2.setCells (w.heap.size + 2) 0 (cS (.slice ia im ic) (.slice oa om oc) (.slice za zm zc) dn)):=rfl
    clear q1 q2 q3
    go_wp2
    (try simp only[Exit.inBlock,Exit.then])
    rw [HE9.out]
    generalize w2.setCells (w.heap.size + 2) 0 (cS (.slice ia im ic) (.slice oa om oc) (.slice za zm zc) dn) = WF at HF HE9 |-
    obtain ⟨d0,d1,d2,d3⟩:=dg HF.out.1
    refine MK (v:=.tuple #[iB (.slice ia im ic) (.slice oa om oc) (.slice za zm zc) dn,.string td,.int .i64 0]) (by simp [results,Tryz.results9,go_sem,d0,d1,d2,d3]) rfl ⟨ia,im,ic,oa,om,oc,za,zm,zc,L,?_,?_,HF.out.2.2⟩
    ·rw [HX2.out,HR2.out,HDN.out,HE.out]
    ·rw [HX2.out];exact HF.out.2.1
   ·have u2:(wt==2)=false:=MQ.2 h2
    obtain ⟨c,hc⟩:∃ c:Int,(if wt = 3 then 7 else 412) = c:=⟨_,rfl⟩
    have HR2:Hid (Mc.kI x cl rq b=Mc.bytes (Nf.bad c)):=by
     show _=_
     rw [HR.out,ME h1,ME h2,<-hc]
     split <;> rfl
    have HS:(λV:World=>V.cell? ⟨w.1.size,0,none⟩=some (.slice ia im ic)/\V.cell? ⟨w.1.size,1,none⟩=some (.slice oa om oc)/\V.cell? ⟨w.1.size,2,none⟩=some (.slice za zm zc)/\V.cell? ⟨w.1.size,3,none⟩=some (.int .i64 dn)) w2.drew:=dg J0.out
    clear HR HX h1 h2
    by_cases h3:wt = 3
    ·rw [MC h3] at hc;have u3:(wt == 3) = true:=by simp [h3]
     clear h3
     subst hc
     go_wp2_with fail
     refine NX (by kernel_rfl) ?_
     change wpAny _ _ _ _ _ _ _ (World.drew _)
     refine Fst.iu (late:=λk=>[3,4,5].contains k) (S:=(λV:World=>V.cell? ⟨w.heap.size,0,none⟩ = some (.slice ia im ic)/\V.cell? ⟨w.heap.size,1,none⟩ = some (.slice oa om oc)/\V.cell? ⟨w.heap.size,2,none⟩ = some (.slice za zm zc)/\V.cell? ⟨w.heap.size,3,none⟩ = some (.int .i64 dn))) _ _ _ _ ?_
     refine Fst.tk (ls:=[3,4,5]) (i:=0) (v:=?v1) rfl (Or.inl ⟨by rfl,?h1⟩) HS ?r1
     case h1=>(rintro V ⟨s0,s1,s2,s3⟩;go_simp;try with_reducible rfl)
     try simp only [Act.put,qX,qY,qZ]
     clear HS
     refine Fst.one (late:=λk=>[3,4,5].contains k) (i:=1) (by kernel_rfl) rfl (λK hK=>?_)
     go_simp
     refine (pC _ _).mono ?_
     rintro e w5 ⟨rfl,hb5⟩
     have HB5:Hid _:=dH hb5
     have HS:(λV:World=>V.cell? ⟨w.1.size,0,none⟩=some (.slice ia im ic)/\V.cell? ⟨w.1.size,1,none⟩=some (.slice oa om oc)/\V.cell? ⟨w.1.size,2,none⟩=some (.slice za zm zc)/\V.cell? ⟨w.1.size,3,none⟩=some (.int .i64 dn)) w5:=dg (cK J0.out HB5.out)
     clear hb5
     (try go_wp2_with fail)
     refine hK _ _ HS ?_
     clear hK K HS
     try simp only [Act.put,qX,qY,qZ]
     refine Fst.one (late:=λk=>[3,4,5].contains k) (i:=2) (by kernel_rfl) rfl (λK hK=>?_)
     go_simp
     refine (sh (Nf.bad _) (.slice none 0 0) w5 At.nil (λx h=>by cases h)).mono ?_
     rintro e w6 ⟨rfl,hb6⟩
     have HB6:=qJ HB5 hb6
     have HS:(λV:World=>V.cell? ⟨w.1.size,0,none⟩=some (.slice ia im ic)/\V.cell? ⟨w.1.size,1,none⟩=some (.slice oa om oc)/\V.cell? ⟨w.1.size,2,none⟩=some (.slice za zm zc)/\V.cell? ⟨w.1.size,3,none⟩=some (.int .i64 dn)) w6:=dg (cK J0.out HB6.out)
     clear hb6 HB5
     (try go_wp2_with fail)
     refine hK _ _ HS ?_
     clear hK K HS
     try simp only [Act.put,qX,qY,qZ]
     refine Fst.rest (by kernel_rfl) ?_
     have M2:Hid _:=cK J2.out HB6.out
     obtain ⟨a0,a1,a2,a3⟩:=dg M2.out
     have fa:=dw M2.out
     have hz:=HZ2.out
     obtain ⟨q1,q2,q3⟩:=jI (w:=w) M2.out (HM2.out.up HB6.out) (by rintro ⟨-,h⟩;omega) (HB2.out.trans (HB6.out.mono HB2.out.size)) (by omega)
     rw [HDN.out] at q1 q2 q3
     have HF:Hid _:=And.intro q1 (And.intro (q2.imp (T:=λb=>S b\/w.heap.size<=b) λb h _=>.inl h.1) q3)
     have HE9:Hid ((((w6.setCell ⟨w.heap.size + 2,0,none⟩ (.slice ia im ic)).setCell ⟨w.heap.size + 2,1,none⟩ (.slice oa om oc)).setCell ⟨w.heap.size + 2,2,none⟩ (.slice za zm zc)).setCell ⟨w.heap.size + 2,3,none⟩ (.int .i64 dn) = w6.setCells (w.heap.size + 2) 0 (cS (.slice ia im ic) (.slice oa om oc) (.slice za zm zc) dn)):=rfl
     clear q1 q2 q3 M2
     refine Nc (rs:=[3]) (by kernel_rfl) (by simp) ?_
     refine M7 rfl (λK hK=>?_) M9
     go_simp
     (try go_wp2_with fail)
     first | (refine hK _ _ ?_;clear hK K) | skip
     try simp only [Act.put,qX,qY,qZ]
     refine Nc (rs:=[4]) (by kernel_rfl) (by simp) ?_
     refine M7 rfl (λK hK=>?_) M9
     go_simp
     (try go_wp2_with fail)
     first | (refine hK _ _ ?_;clear hK K) | skip
     try simp only [Act.put,qX,qY,qZ]
     refine Nc (rs:=[5]) (by kernel_rfl) (by simp) ?_
     refine M7 rfl (λK hK=>?_) M9
     go_simp
     (try go_wp2_with fail)
     first | (refine hK _ _ ?_;clear hK K) | skip
     try simp only [Act.put,qX,qY,qZ]
     refine N1 (by kernel_rfl) ?_ _
     go_wp2
     (try simp only[Exit.inBlock,Exit.then])
     rw [HE9.out]
     generalize w6.setCells (w.heap.size + 2) 0 (cS (.slice ia im ic) (.slice oa om oc) (.slice za zm zc) dn) = WF at HF HE9 |-
     obtain ⟨d0,d1,d2,d3⟩:=dg HF.out.1
     refine MK (v:=.tuple #[iB (.slice ia im ic) (.slice oa om oc) (.slice za zm zc) dn,.string (Mc.kI x cl rq b),.int .i64 0]) (by rw [HR2.out];simp [results,Tryz.results9,go_sem,d0,d1,d2,d3]) rfl ⟨ia,im,ic,oa,om,oc,za,zm,zc,L,?_,?_,HF.out.2.2⟩
     ·rw [HX2.out,HDN.out,HE.out]
     ·rw [HX2.out];exact HF.out.2.1
    ·rw [ME h3] at hc;have u3:(wt==3)=false:=MQ.2 h3
     clear h3
     subst hc
     go_wp2_with fail
     refine NX (by kernel_rfl) ?_
     change wpAny _ _ _ _ _ _ _ (World.drew _)
     refine Fst.iu (late:=λk=>[3,4,5].contains k) (S:=(λV:World=>V.cell? ⟨w.heap.size,0,none⟩ = some (.slice ia im ic)/\V.cell? ⟨w.heap.size,1,none⟩ = some (.slice oa om oc)/\V.cell? ⟨w.heap.size,2,none⟩ = some (.slice za zm zc)/\V.cell? ⟨w.heap.size,3,none⟩ = some (.int .i64 dn))) _ _ _ _ ?_
     refine Fst.tk (ls:=[3,4,5]) (i:=0) (v:=?v2) rfl (Or.inl ⟨by rfl,?h2⟩) HS ?r2
     case h2=>(rintro V ⟨s0,s1,s2,s3⟩;go_simp;try with_reducible rfl)
     try simp only [Act.put,qX,qY,qZ]
     clear HS
     refine Fst.one (late:=λk=>[3,4,5].contains k) (i:=1) (by kernel_rfl) rfl (λK hK=>?_)
     go_simp
     refine (pC _ _).mono ?_
     rintro e w5 ⟨rfl,hb5⟩
     have HB5:Hid _:=dH hb5
     have HS:(λV:World=>V.cell? ⟨w.1.size,0,none⟩=some (.slice ia im ic)/\V.cell? ⟨w.1.size,1,none⟩=some (.slice oa om oc)/\V.cell? ⟨w.1.size,2,none⟩=some (.slice za zm zc)/\V.cell? ⟨w.1.size,3,none⟩=some (.int .i64 dn)) w5:=dg (cK J0.out HB5.out)
     clear hb5
     (try go_wp2_with fail)
     refine hK _ _ HS ?_
     clear hK K HS
     try simp only [Act.put,qX,qY,qZ]
     refine Fst.one (late:=λk=>[3,4,5].contains k) (i:=2) (by kernel_rfl) rfl (λK hK=>?_)
     go_simp
     refine (sh (Nf.bad _) (.slice none 0 0) w5 At.nil (λx h=>by cases h)).mono ?_
     rintro e w6 ⟨rfl,hb6⟩
     have HB6:=qJ HB5 hb6
     have HS:(λV:World=>V.cell? ⟨w.1.size,0,none⟩=some (.slice ia im ic)/\V.cell? ⟨w.1.size,1,none⟩=some (.slice oa om oc)/\V.cell? ⟨w.1.size,2,none⟩=some (.slice za zm zc)/\V.cell? ⟨w.1.size,3,none⟩=some (.int .i64 dn)) w6:=dg (cK J0.out HB6.out)
     clear hb6 HB5
     (try go_wp2_with fail)
     refine hK _ _ HS ?_
     clear hK K HS
     try simp only [Act.put,qX,qY,qZ]
     refine Fst.rest (by kernel_rfl) ?_
     have M2:Hid _:=cK J2.out HB6.out
     obtain ⟨a0,a1,a2,a3⟩:=dg M2.out
     have fa:=dw M2.out
     have hz:=HZ2.out
     obtain ⟨q1,q2,q3⟩:=jI (w:=w) M2.out (HM2.out.up HB6.out) (by rintro ⟨-,h⟩;omega) (HB2.out.trans (HB6.out.mono HB2.out.size)) (by omega)
     rw [HDN.out] at q1 q2 q3
     have HF:Hid _:=And.intro q1 (And.intro (q2.imp (T:=λb=>S b\/w.heap.size<=b) λb h _=>.inl h.1) q3)
     have HE9:Hid ((((w6.setCell ⟨w.heap.size + 2,0,none⟩ (.slice ia im ic)).setCell ⟨w.heap.size + 2,1,none⟩ (.slice oa om oc)).setCell ⟨w.heap.size + 2,2,none⟩ (.slice za zm zc)).setCell ⟨w.heap.size + 2,3,none⟩ (.int .i64 dn) = w6.setCells (w.heap.size + 2) 0 (cS (.slice ia im ic) (.slice oa om oc) (.slice za zm zc) dn)):=rfl
     clear q1 q2 q3 M2
     refine Nc (rs:=[3]) (by kernel_rfl) (by simp) ?_
     refine M7 rfl (λK hK=>?_) M9
     go_simp
     (try go_wp2_with fail)
     first | (refine hK _ _ ?_;clear hK K) | skip
     try simp only [Act.put,qX,qY,qZ]
     refine Nc (rs:=[4]) (by kernel_rfl) (by simp) ?_
     refine M7 rfl (λK hK=>?_) M9
     go_simp
     (try go_wp2_with fail)
     first | (refine hK _ _ ?_;clear hK K) | skip
     try simp only [Act.put,qX,qY,qZ]
     refine Nc (rs:=[5]) (by kernel_rfl) (by simp) ?_
     refine M7 rfl (λK hK=>?_) M9
     go_simp
     (try go_wp2_with fail)
     first | (refine hK _ _ ?_;clear hK K) | skip
     try simp only [Act.put,qX,qY,qZ]
     refine N1 (by kernel_rfl) ?_ _
     go_wp2
     (try simp only[Exit.inBlock,Exit.then])
     rw [HE9.out]
     generalize w6.setCells (w.heap.size + 2) 0 (cS (.slice ia im ic) (.slice oa om oc) (.slice za zm zc) dn) = WF at HF HE9 |-
     obtain ⟨d0,d1,d2,d3⟩:=dg HF.out.1
     refine MK (v:=.tuple #[iB (.slice ia im ic) (.slice oa om oc) (.slice za zm zc) dn,.string (Mc.kI x cl rq b),.int .i64 0]) (by rw [HR2.out];simp [results,Tryz.results9,go_sem,d0,d1,d2,d3]) rfl ⟨ia,im,ic,oa,om,oc,za,zm,zc,L,?_,?_,HF.out.2.2⟩
     ·rw [HX2.out,HDN.out,HE.out]
     ·rw [HX2.out];exact HF.out.2.1
 ·have HS:Hid (Mc.j8 x cl rq b = Sh.EN/\Mc.kI x cl rq b = ⟨#[]⟩):=by
   refine ⟨?_,?_⟩
   ·unfold Mc.j8;rw [HE.out,ME h0]
   ·unfold Mc.kI;rw [HE.out,ME h0]
  have t0:(E != 0) = true:=by simp [h0]
  obtain ⟨a0,a1,a2,a3⟩:=dg K2.out
  have fa:=dw K2.out
  have hz:=HZ.out
  obtain ⟨q1,q2,q3⟩:=jI (w:=w) K2.out (Ms.none (λ_=>False) w1) (λh=>h) HB1.out (by omega)
  have HF:Hid _:=And.intro q1 (And.intro (q2.imp (T:=λb=>S b\/w.heap.size<=b) λ_ h _=>h.elim) q3)
  have HE9:Hid ((((w1.setCell ⟨w.heap.size + 2,0,none⟩ (.slice none 0 0)).setCell ⟨w.heap.size + 2,1,none⟩ (.slice none 0 0)).setCell ⟨w.heap.size + 2,2,none⟩ (.slice none 0 0)).setCell ⟨w.heap.size + 2,3,none⟩ (.int .i64 0) = w1.setCells (w.heap.size + 2) 0 (cS (.slice none 0 0) (.slice none 0 0) (.slice none 0 0) Sh.EN.dn)):=rfl
  clear q1 q2 q3 h0
  go_wp2
  (try simp only[Exit.inBlock,Exit.then])
  rw [HE9.out]
  generalize w1.setCells (w.heap.size + 2) 0 (cS (.slice none 0 0) (.slice none 0 0) (.slice none 0 0) Sh.EN.dn) = WF at HF HE9 |-
  obtain ⟨d0,d1,d2,d3⟩:=dg HF.out.1
  refine MK (v:=.tuple #[iB (.slice none 0 0) (.slice none 0 0) (.slice none 0 0) 0,.string ⟨#[]⟩,.int .i64 E]) (by simp [results,Tryz.results9,go_sem,d0,d1,d2,d3];try rfl) rfl ⟨none,0,0,none,0,0,none,0,0,[],?_,?_,HF.out.2.2⟩
  ·rw [HS.out.1,HS.out.2,HE.out];rfl
  ·rw [HS.out.1];exact HF.out.2.1
end Go.Proofs.YtiifhfmekbhlnaaGreat
namespace Go.Proofs.YtiifhfmekbhlnaaGreat
open It RowKit
namespace Sh
theorem Jj {nx:Int}(h:0<=nx/\nx<=1099511627776):Fo.fE [] nx:=⟨h,λi a=>by simp at a,by simp[Fo.apart]⟩
theorem DK:Sp.oV new:=λx a=>by
 simp[new,fresh]at a;subst a;exact λ_=>⟨Jj qd,rfl⟩
theorem Ka:Sp.cZ new=true:=Sp.ei.2 ⟨qd,DK,qd,qd⟩
theorem DA:Nf.right new [] 0=true:=by
 have a:(Os.Op.right 0 []&&(Nf.iT new []&&(decide (eU new<=8192)&&Nf.ko new 0)))=true:=by decide +kernel
 unfold Nf.right;rw[Ka,a];rfl
theorem Ez:whole new [] [] 0=true:=by
 unfold whole;rw[DA];rfl
end Sh
namespace Mc
open Sh
abbrev q9:=Int × Int × Int × ByteArray
noncomputable def gO:iF->List q9->Int
 | _,[]=>0
 | x,i::l=>if eP x i.2.1 i.2.2.1=0 then gO (j8 x i.2.1 i.2.2.1 i.2.2.2) l else eP x i.2.1 i.2.2.1
noncomputable def runT:iF->List q9->iF
 | x,[]=>x
 | x,i::l=>runT (j8 x i.2.1 i.2.2.1 i.2.2.2) l
noncomputable def lT:iF->List q9->List ByteArray
 | _,[]=>[]
 | x,i::l=>kI x i.2.1 i.2.2.1 i.2.2.2::lT (j8 x i.2.1 i.2.2.1 i.2.2.2) l
noncomputable def gT (x:iF) (l:List q9):iF:=if gO x l=0 then runT x l else EN
noncomputable def ky (x:iF) (l:List q9):List ByteArray:=if gO x l=0 then lT x l else []
theorem ux (x:iF)(a b):gO x (a++b)=if gO x a=0 then gO (runT x a) b else gO x a:=by
 induction a generalizing x with
 | nil=>rfl
 | cons i a ih =>
  show (if eP x i.2.1 i.2.2.1=0 then gO (j8 x i.2.1 i.2.2.1 i.2.2.2) (a++b) else _)=if (if eP x i.2.1 i.2.2.1=0 then gO (j8 x i.2.1 i.2.2.1 i.2.2.2) a else _)=0 then _ else (if eP x i.2.1 i.2.2.1=0 then _ else _)
  by_cases h:eP x i.2.1 i.2.2.1=0
  ·simp only[if_pos h];exact ih _
  ·simp only[if_neg h]
theorem zL (x:iF)(a b):runT x (a++b)=runT (runT x a) b:=by
 induction a generalizing x with
 | nil=>rfl
 | cons i a ih=>exact ih _
theorem zw (x:iF)(a b):lT x (a++b)=lT x a++lT (runT x a) b:=by
 induction a generalizing x with
 | nil=>rfl
 | cons i a ih=>show _::lT _ (a++b)=_::(_++_);rw[ih];rfl
theorem uM (x:iF)(a):(lT x a).length=a.length:=by
 induction a generalizing x with
 | nil=>rfl
 | cons i a ih=>show (lT _ a).length+1=a.length+1;rw[ih]
theorem rQ {x:iF}{l:List q9}(hx:wh x=true)(h:gO x l=0):wh (runT x l)=true/\x.dn<=(runT x l).dn/\(runT x l).dn<=x.dn+l.length:=by
 induction l generalizing x with
 | nil=>exact⟨hx,Ng _,by show x.dn<=x.dn+((0:Nat):Int);omega⟩
 | cons i l ih =>
  unfold gO at h
  by_cases h0:eP x i.2.1 i.2.2.1=0
  ·rw[MC h0]at h;obtain⟨a,c⟩:=uQ h0 i.2.2.2;obtain⟨b,d,f⟩:=ih a h;refine⟨b,?_,?_⟩
   ·show x.dn<=(runT (j8 x i.2.1 i.2.2.1 i.2.2.2) l).dn;omega
   ·show (runT (j8 x i.2.1 i.2.2.1 i.2.2.2) l).dn<=x.dn+((l.length+1:Nat):Int);omega
  ·rw[ME h0]at h;exact absurd h h0
theorem FB (x:iF)(a)(i:q9)(h:gO x a=0):gO x (a++[i])=eP (runT x a) i.2.1 i.2.2.1/\runT x (a++[i])=j8 (runT x a) i.2.1 i.2.2.1 i.2.2.2/\lT x (a++[i])=lT x a++[kI (runT x a) i.2.1 i.2.2.1 i.2.2.2]:=by
 refine⟨?_,by rw[zL];rfl,by rw[zw];rfl⟩;rw[ux,MC h];show (if eP (runT x a) i.2.1 i.2.2.1=0 then 0 else eP (runT x a) i.2.1 i.2.2.1)=_;split
 ·rename_i h;exact h.symm
 ·rfl
theorem Hi (x:iF)(a)(i:q9)(b)(h:gO x a=0)(hi:eP (runT x a) i.2.1 i.2.2.1≠0):gO x (a++i::b)=eP (runT x a) i.2.1 i.2.2.1:=by
 rw[ux,MC h];show (if eP (runT x a) i.2.1 i.2.2.1=0 then _ else _)=_;rw[ME hi]
theorem yr {x:iF}{cl rq:Int}(h:eP x cl rq=0)(hw:Es.Se.fp x.Z cl rq=2)(b):j8 x cl rq b=x/\kI x cl rq b=Es.Se.told x.Z cl rq:=by
 unfold j8 kI;rw[MC h,MC h,ME qo,ME qo,MC hw];exact⟨rfl,rfl⟩
theorem tY {x:iF}{cl rq:Int}(h:eP x cl rq=0)(hw:Es.Se.fp x.Z cl rq≠1)(b):j8 x cl rq b=x:=by
 unfold j8;rw[MC h,ME hw]
theorem Ev {x:iF}{cl rq:Int}(h:eP x cl rq=0)(b)(hw:Es.Se.fp (j8 x cl rq b).Z cl rq=2):Es.Se.told (j8 x cl rq b).Z cl rq=kI x cl rq b:=by
 by_cases h1:Es.Se.fp x.Z cl rq=1
 ·rw[(AL h h1 b).2];unfold kI;rw[MC h,MC h1]
 ·rw[tY h h1 b]at hw |-;exact (yr h hw b).2.symm
theorem EJ {l:List Es.fB}{cl rq:Int}(h:Es.Se.fp l cl rq=2)(hr:1<rq):Es.Se.fp l cl (rq-1)=3:=by
 have a:Es.Se.fu l cl rq=0:=by
  by_cases h0:Es.Se.fu l cl rq=0
  ·exact h0
  ·rw[(Es.Se.yY h0).1]at h;exact absurd h qd
 obtain⟨f,g,i⟩:=Es.Se.mS a;have c:Es.Se.fu l cl (rq-1)=0:=Es.Se.oq f g ⟨by omega,by have:=i.2;omega⟩
 cases hs:Es.Se.gu l cl with
 | none =>
  have:=(Es.Se.kO a hs).1;rw[h]at this;split at this <;> omega
 | some z =>
  have b:=(Es.Se.kJ a hs).1;have d:=(Es.Se.kJ c hs).1;rw[h]at b;rw[d];split at b
  ·omega
  ·split at b
   ·omega
   ·rw[ME qo,MC qo]
def x0:iF:=⟨new,[],[],0⟩
def made:ByteArray:=Ks.Ak.db Nf.c1
def r0:ByteArray:=bytes ⟨0,1,1,1,1,0,1,⟨#[]⟩,[],0⟩
theorem y9:Ks.Ak.fZ made.data.toList=0/\Ks.Ak.jY made.data.toList=Nf.c1:=by
 have a:Ks.Ak.right Nf.c1=true:=by decide +kernel
 obtain⟨b,c,-⟩:=Ks.Ak.back a;have e:made.data.toList=Ks.Pl.encs (Ks.Ak.fields Nf.c1):=by unfold made Ks.Ak.db;rw[MC a,Ks.Pl.kb]
 rw[e];exact⟨c,b⟩
theorem C9:wh x0=true:=Ez
theorem su:eP x0 5 1=0:=pW C9 qd qd qd
noncomputable def x1:iF:=j8 x0 5 1 made
theorem Df:kI x0 5 1 made=r0/\x1.dn=1/\Es.Se.fp x1.Z 5 1=2/\Es.Se.told x1.Z 5 1=r0:=by
 have a:Es.Se.fp x0.Z 5 1=1:=qd
 obtain⟨c,g,h,i⟩:=Nf.LI;have b:vH x0 5 made=r0:=by
  unfold vH CL;rw[MC y9.1,y9.2];show bytes (Nf.kI new [] 0 5 Nf.c1)=_;rw[c];rfl
 obtain⟨d,f⟩:=AL su a made;refine⟨?_,?_,d,by rw[<-b];exact f⟩
 ·unfold kI;rw[MC su,MC a,b]
 ·unfold x1 j8;rw[MC su,MC a];show (Cy x0 5 made).dn=1;exact (vB su made).2
theorem FL:wh x1=true:=(uQ su made).1
theorem Hj:eP x1 5 1=0:=pW FL qd qd (by rw[Df.2.1];decide)
theorem KW:j8 x1 5 1 made=x1/\kI x1 5 1 made=r0:=by
 obtain⟨a,b⟩:=yr Hj Df.2.2.1 made;exact⟨a,by rw[b,Df.2.2.2]⟩
end Mc
def oW:fY ByteArray:=⟨1,λs=>[.string s],λ_=>rfl,λx u hu=>by
 simp at hu;rcases hu with rfl
 rfl⟩
theorem Ko:(Tryz.prog.info? 9).map (λi=>(i.zero,i.size,i.bytes))=some (some (.string ⟨#[]⟩),1,16):=qk
theorem FH {w:World}{B:Nat}{s:ByteArray}(h:w.1[B]?=some (.cells #[.string s] 9 (0,0))):ey oW w (.slice (some ⟨B,0,none⟩) 1 1) [s]:=by
 refine .inr ⟨B,0,1,rfl,trivial,(qL h),qs,qs,by unfold maxLen;omega,λj u a=>?_⟩;have e:oW.flat [s]=[.string s]:=by simp[fY.flat,oW]
 rw[e]at a
 match j,a with
 | 0,a =>
  simp at a;subst a;simp[World.cell?,h]
theorem Ms.grown {S:Nat->Prop}{w w':World}{vi vo vz:Value}{L:List Rw}{x:Sh.iF}{row:Option Nat}(h:Ms S w vi vo vz L x)(hg:w.grownBy w' row)(hr:∀ g,row=some g->¬ S g):Ms S w' vi vo vz L x :=
 ⟨⟨h.tab.1.grown hg hr,λy a=>⟨(h.tab.2 y a).1.grown hg hr,(h.tab.2 y a).2.1.grown hg hr,(h.tab.2 y a).2.2⟩⟩,h.eq,h.ok,h.ops.grown hg hr,h.jB.grown hg hr⟩
structure Rl (S:Nat->Prop) (w W:World) (x:Sh.iF) (l:List Mc.q9) (k:Nat) (g u p q:Value) (L':List Rw) (X:Sh.iF) (wr:World):Prop where
 at_:X = Mc.runT x (l.take k)
 err:Mc.gO x (l.take k) = 0
 box:wr.1[w.1.size]? = some (gB u p q X.dn)
 out:wr.1[w.1.size + 1]? = some sI
 ms:Ms (λb=>((S b/\b < w.1.size)\/W.1.size<=b)/\g.ownBlock≠some b) wr u p q L' X
 row:Row oW wr W.1.size 9 g (Mc.lT x (l.take k))
 bl:Bw w wr
 sz:W.1.size<=wr.1.size
theorem Rl.next {S:Nat->Prop}{w W wr V w7:World}{x:Sh.iF}{l:List Mc.q9}{k:Nat}{g g' u p q u' p' q':Value}{L' L2:List Rw}{X:Sh.iF}{y:Mc.q9}(h:Rl S w W x l k g u p q L' X wr)(hy:l[k]?=some y)(h0:Mc.eP X y.2.1 y.2.2.1=0)(hW:w.1.size+1<W.1.size)(hV:wr.1.size<=V.1.size)(hb:V.1[w.1.size]?=some (gB u' p' q' (Mc.j8 X y.2.1 y.2.2.1 y.2.2.2).dn))(ho:V.1[w.1.size+1]?=some sI)(hm:Ms (λb=>(((S b/\b<w.1.size)\/W.1.size<=b)/\g.ownBlock≠some b)) V u' p' q' L2 (Mc.j8 X y.2.1 y.2.2.1 y.2.2.2))(hbl:Bw w V)(hr:Row oW w7 W.1.size 9 g' (Mc.lT x (l.take k)++[Mc.kI X y.2.1 y.2.2.1 y.2.2.2]))(hg:V.grownBy w7 g.ownBlock)(hl:g'.ownBlock=g.ownBlock\/∀ j,g'.ownBlock=some j->V.1.size<=j) :
  Rl S w W x l (k+1) g' u' p' q' L2 (Mc.j8 X y.2.1 y.2.2.1 y.2.2.2) w7:=by
 obtain⟨t,rfl⟩:=MN.1 hy;have d:=Np t;obtain⟨m,n,r⟩:=Mc.FB x (l.take k) l[k] h.err;rw[<-h.at_]at m n r;have a:∀ j,g.ownBlock=some j->W.1.size<=j:=λj c=>(h.row.lt j c).1
 have i:∀ {A:Nat} {o:Obj},A<W.1.size->V.1[A]?=some o->w7.1[A]?=some o:=λ{A o} hA ha=>by
  rw[hg.block A (qL ha) (λe=>by have:=a A e.symm;omega)];exact ha
 refine⟨by rw[d,n],by rw[d,m];exact h0,i qo hb,i hW ho,?_,by rw[d,r];exact hr,hbl.grown hg hbl.size (λj c=>by have:=a j c;omega),MS (MS h.sz hV) hg.size⟩;have s:=(hm.imp (T:=λb=>(((S b/\b<w.1.size)\/W.1.size<=b)/\g.ownBlock≠some b)/\b<V.1.size) λb hb f=>⟨hb,f⟩).grown hg (λj c v=>v.1.2 c);exact s.imp λb hb _=>⟨hb.1.1,λe=>by
  rcases hl with hl | hl
  ·rw[hl]at e;exact hb.1.2 e
  ·have z:=hl b e;have B:=hb.2;omega⟩
theorem pG {w:World}{ao:Option Addr}{cap:Nat}{l:List Mc.q9}{S:Nat->Prop}(h:At tR S w (.slice ao l.length cap) l){k:Nat}{r:Mc.q9}(hk:l[k]?=some r):∃ b off,ao=some ⟨b,off,none⟩/\b<w.1.size/\w.cell? ⟨b,off+k*4,none⟩=some (.int .i64 r.1)/\w.cell? ⟨b,off+k*4+1,none⟩=some (.int .i64 r.2.1)/\w.cell? ⟨b,off+k*4+2,none⟩=some (.int .i64 r.2.2.1)/\w.cell? ⟨b,off+k*4+3,none⟩=some (.string r.2.2.2):=by
 obtain⟨d,c,f,-,g⟩:=h.open
 injection f with i n o
 subst i;obtain⟨b,off,j,-,m,a⟩:=g k r hk;exact⟨b,off,j,m,a 0 _ rfl,a 1 _ rfl,a 2 _ rfl,a 3 _ rfl⟩
theorem Ai {S T:Nat->Prop} (vi vo vz:Value) (L:List Rw) (x:Sh.iF) (lv:Value) (l:List Mc.q9) (w:World) (h:Ms S w vi vo vz L x) (hl:At tR T w lv l) (hn:l.length<=1000) (hb:∀ y∈l,y.2.2.2.size<=1048576) :
  Calls Tryz.prog 12 #[iB vi vo vz x.dn,lv] w λe w'=>∃ ua un uc pa pn pc qa qn qc ra rn rc L',e = .returned (.tuple #[iB (.slice ua un uc) (.slice pa pn pc) (.slice qa qn qc) (Mc.gT x l).dn,.slice ra rn rc,.int .i64 (Mc.gO x l)])/\Ms (λb=>S b\/w.heap.size<=b) w' (.slice ua un uc) (.slice pa pn pc) (.slice qa qn qc) L' (Mc.gT x l)/\At oW (λb=>w.heap.size<=b) w' (.slice ra rn rc) (Mc.ky x l)/\Below w.heap.size w w':=by
 obtain ⟨⟨ia,im,ic,rfl⟩,⟨oa,om,oc,rfl⟩,za,zm,zc,rfl⟩:=h.mP
 obtain ⟨ao,cap,rfl,-,-⟩:=hl.open
 obtain ⟨W,hW⟩:∃ V,V = (w.alloc (gB (.slice ia im ic) (.slice oa om oc) (.slice za zm zc) x.dn)).alloc sI:=⟨_,rfl⟩
 have HN:Hid _:=xR w (gB (.slice ia im ic) (.slice oa om oc) (.slice za zm zc) x.dn) sI
 rw [<-hW] at HN
 have HWS:Hid (W.1.size=w.1.size+2):=by show _=_;rw [hW];simp
 have HL:Hid _:=hl.wide
 have HNL:Hid _:=hn
 have HBL:Hid _:=hb
 have HR0:Hid (Rl S w W x l 0 (.slice none 0 0) (.slice ia im ic) (.slice oa om oc) (.slice za zm zc) L x W) :=
  ⟨rfl,rfl,HN.out.1,HN.out.2.1,(h.low.up HN.out.2.2).imp λb hs _=>⟨.inl hs,by simp [Value.ownBlock]⟩,Row.nil _ _ _ _,HN.out.2.2,MI _⟩
 obtain ⟨n,hnn⟩:∃ n,l.length = n:=⟨_,rfl⟩
 have HLN:Hid _:=hnn
 rw [hnn]
 have hm:n<=1000:=by rw [<-hnn];exact hn
 clear h hl hn hb hnn
 go_enter Tryz.func12,Tryz.ntmps12
 go_wp2_with fail
 rw [<-hW]
 clear hW
 go_loopw [7,15] (λg0 i wr=>∃ (k:Nat) (g u p q:Value) (L':List Rw) (X:Sh.iF),k<=n/\i = .int .i64 k/\g = g0/\Hid (Rl S w W x l k g u p q L' X wr)) (λ_ i _=>n - (intOf i).toNat)
 case atStart=>exact ⟨0,_,_,_,_,L,x,MV _,rfl,rfl,HR0.out⟩
 case round =>
  obtain ⟨k,g,u,p,q,L1,X,hk,rfl,rfl,HR⟩:=hrel
  by_cases hlt:k < n
  ·obtain ⟨y,hyk⟩:∃ y,l[k]? = some y:=⟨_,MF (by rw [HLN.out];exact hlt)⟩
   have HY:Hid _:=hyk
   obtain ⟨b,off,rfl,hB,c0,c1,c2,c3⟩:=pG HL.out hyk
   rw [<-HR.out.bl.cell (p:=⟨b,off + k * 4,none⟩) hB] at c0
   rw [<-HR.out.bl.cell (p:=⟨b,off + k * 4 + 1,none⟩) hB] at c1
   rw [<-HR.out.bl.cell (p:=⟨b,off + k * 4 + 2,none⟩) hB] at c2
   rw [<-HR.out.bl.cell (p:=⟨b,off + k * 4 + 3,none⟩) hB] at c3
   have hlt':(k:Int) < (n:Int):=by omega
   obtain ⟨⟨a1,n1,d1,rfl⟩,⟨a2,n2,d2,rfl⟩,a3,n3,d3,rfl⟩:=HR.out.ms.mP
   obtain ⟨V,hV⟩:∃ V,V = wr.alloc (yP y.1 y.2.1 y.2.2.1 y.2.2.2):=⟨_,rfl⟩
   have hbV:Below wr.heap.size wr V:=by rw [hV];exact (MJ _ _).alloc (MI _) _
   have HVI:Hid (V.1[wr.1.size]?=some (yP y.1 y.2.1 y.2.2.1 y.2.2.2)):=by show _=_;rw [hV];exact MD _ _
   have HV0:Hid _:=cK HR.out.box hbV
   have HV1:Hid _:=cK HR.out.out hbV
   have HBV:Hid _:=hbV
   obtain ⟨x0,x1,x2,x3⟩:=dg HV0.out
   obtain ⟨y0,y1,y2,y3⟩:=iR HVI.out
   rw [hV] at x0 x1 x2 x3 y0 y1 y2 y3
   clear hyk hbV
   go_wp2_with fail
   rw [<-hV]
   clear hV x0 x1 x2 x3 y0 y1 y2 y3 c0 c1 c2 c3
   have hd:=oA _ _ _ L1 X y.1 y.2.1 y.2.2.1 y.2.2.2 V (HR.out.ms.up HBV.out) (HBL.out y (MG HY.out))
   refine hd.mono ?_
   clear hd
   rintro e w2 ⟨e1,m1,f1,e2,m2,f2,e3,m3,f3,L2,rfl,hm2,hb2⟩
   have HWV:=qJ HBV hb2
   have HM2:Hid (Ms (λb=>((S b/\b<w.1.size)\/W.1.size<=b)/\g.ownBlock≠some b) w2 (.slice e1 m1 f1) (.slice e2 m2 f2) (.slice e3 m3 f3) L2 (Mc.j8 X y.2.1 y.2.2.1 y.2.2.2)):=hm2.imp λb hb _=>hb.elim id λh=>by
    have h1:=HBV.out.size
    have h2:=HR.out.sz
    exact ⟨.inr (by omega),λe=>by have:=(HR.out.row.lt b e).2;omega⟩
   have H20:Hid _:=cK HV0.out hb2
   have H21:Hid _:=cK HV1.out hb2
   have HB2:Hid _:=HR.out.bl.trans (HWV.out.mono HR.out.bl.size)
   have HSZ2:Hid (W.heap.size<=w2.heap.size/\wr.heap.size<=w2.heap.size):=by have h1:=HWV.out.size;have h2:=HR.out.sz;exact ⟨by omega,h1⟩
   clear hm2 hb2 HVI HV0 HV1 HBV
   obtain ⟨E,hE⟩:∃ E,Mc.eP X y.2.1 y.2.2.1 = E:=⟨_,rfl⟩
   have HE:Hid _:=hE
   rw [hE]
   obtain ⟨D,hD⟩:∃ D,(Mc.j8 X y.2.1 y.2.2.1 y.2.2.2).dn = D:=⟨_,rfl⟩
   have HD:Hid _:=hD
   rw [hD]
   obtain ⟨rs,hrs⟩:∃ r,Mc.kI X y.2.1 y.2.2.1 y.2.2.2 = r:=⟨_,rfl⟩
   have HRS:Hid _:=hrs
   rw [hrs]
   clear hE hD hrs
   have hws:=HWS.out
   have hz2:=HSZ2.out.1
   obtain ⟨V3,hV3⟩:∃ V,V = w2.alloc (gB (.slice e1 m1 f1) (.slice e2 m2 f2) (.slice e3 m3 f3) D):=⟨_,rfl⟩
   have hb3:Below w2.heap.size w2 V3:=by rw [hV3];exact (MJ _ _).alloc (MI _) _
   have H30:Hid _:=cK H20.out hb3
   have H31:Hid _:=cK H21.out hb3
   have H33:Hid (V3.1[w2.1.size]?=some (gB (.slice e1 m1 f1) (.slice e2 m2 f2) (.slice e3 m3 f3) D)):=by show _=_;rw [hV3];exact MD _ _
   have hne:w.heap.size≠w.heap.size + 1:=by omega
   by_cases h0:E = 0
   ·subst h0
    obtain ⟨x0,x1,x2,x3⟩:=dg H30.out
    have f0:=dw H30.out
    obtain ⟨z0,z1,z2,z3⟩:=dg H33.out
    rw [hV3] at x0 x1 x2 x3 z0 z1 z2 z3
    simp only [hV3] at f0
    obtain ⟨V4,hV4⟩:∃ V,V = V3.setCells w.heap.size 0 (cS (.slice e1 m1 f1) (.slice e2 m2 f2) (.slice e3 m3 f3) D):=⟨_,rfl⟩
    obtain ⟨V5,hV5⟩:∃ V,V = V4.alloc (.cells #[.string rs] 9 (0,0)):=⟨_,rfl⟩
    have hs4:V4.heap.size = V3.heap.size:=by rw [hV4];simp [World.setCells,World.setCell]
    have hl3:=(qL H33.out)
    have hg4:V3.grownBy V4 (some w.heap.size):=by rw [hV4];exact gZ (.inr rfl) _ _ _ (jb _ _)
    have hb5:Below V4.heap.size V4 V5:=by rw [hV5];exact (MJ _ _).alloc (MI _) _
    have H50:Hid (V5.1[w.1.size]?=some (gB (.slice e1 m1 f1) (.slice e2 m2 f2) (.slice e3 m3 f3) (Mc.j8 X y.2.1 y.2.2.1 y.2.2.2).dn)):=by
     show _=_
     rw [HD.out]
     exact cK (show V4.heap[w.heap.size]? = _ by rw [hV4];exact dO (cS (.slice e1 m1 f1) (.slice e2 m2 f2) (.slice e3 m3 f3) D) H30.out rfl) hb5
    have H51:Hid (V5.1[w.1.size+1]?=some sI):=cK (show V4.heap[w.heap.size + 1]? = _ by rw [hV4];exact (dq _ _ _ (by omega)).trans H31.out) hb5
    have HM5:Hid (Ms (λb=>((S b/\b < w.heap.size)\/W.heap.size<=b)/\g.ownBlock≠some b) V5 (.slice e1 m1 f1) (.slice e2 m2 f2) (.slice e3 m3 f3) L2 (Mc.j8 X y.2.1 y.2.2.1 y.2.2.2)) :=
     (show Ms _ V4 _ _ _ _ _ by rw [hV4];exact (HM2.out.up hb3).set (by rintro ⟨h | h,-⟩ <;> omega) _ _).up hb5
    have HB5:Hid (Below w.heap.size w V5):=by
     have h1:=HB2.out.trans (hb3.mono HB2.out.size)
     have h2:Below w.heap.size w V4:=by rw [hV4];exact da (MI _) _ _ _ h1
     exact h2.trans (hb5.mono h2.size)
    have HR5:Hid (Row oW V5 W.heap.size 9 g (Mc.lT x (l.take k))) :=
     (((HR.out.row.up HWV.out).up hb3).kept hg4 (.inr λe=>by have:=(HR.out.row.lt _ e).1;omega)).up hb5
    have HT5:Hid (ey oW V5 (.slice (some ⟨V3.1.size,0,none⟩) 1 1) [rs]):=FH (by rw [hV5,<-hs4];exact MD _ _)
    have HSZ5:Hid (wr.heap.size<=V5.heap.size/\W.heap.size<=V5.heap.size):=by
     have h1:=hb5.size
     have h2:=HSZ2.out
     have h3:=hb3.size
     exact ⟨by omega,by omega⟩
    have HQ5:Hid (V5=(((((w2.alloc (gB (.slice e1 m1 f1) (.slice e2 m2 f2) (.slice e3 m3 f3) D)).setCell ⟨w.1.size,0,none⟩ (.slice e1 m1 f1)).setCell ⟨w.1.size,1,none⟩ (.slice e2 m2 f2)).setCell ⟨w.1.size,2,none⟩ (.slice e3 m3 f3)).setCell ⟨w.1.size,3,none⟩ (.int .i64 D)).alloc (.cells #[.string rs] 9 (0,0))):=by show V5=_;rw [hV5,hV4,hV3];rfl
    have HLK:Hid ((Mc.lT x (l.take k)).length<=1000):=by show _<=_;rw [Mc.uM,M5];omega
    have hs3:V3.heap.size = w2.heap.size + 1:=by rw [hV3];simp
    rw [hs3] at HT5
    obtain ⟨j0,hji,hy0,hy1,hy2⟩:=NQ Ko
    obtain ⟨gp,gc,hgs⟩:=HR.out.row.slice
    have HGS:Hid (g=.slice gp (Mc.lT x (l.take k)).length gc):=hgs
    clear hV3 hV4 hV5 hs4 hl3 hg4 hb5 hb3 hs3 H20 H21 H30 H31 H33 HM2 HB2 HWV hgs
    go_wp2_with (at_builtin;rw [<-HQ5.out];refine eF _ rfl _ _ 40 rfl oW (λ_=>True) W.heap.size 9 j0 (.string ⟨#[]⟩) 16 Tryz.underlying40 hji hy0 hy1 hy2 rfl g (Mc.lT x (l.take k)) rfl HR5.out _ [rs] rfl HT5.out (by have:=HLK.out;unfold maxLen;simp only [List.length_cons,List.length_nil];omega) (by have:=HLK.out;simp only [List.length_cons,List.length_nil];omega) HSZ5.out.2 ?_;intro v7 w7 hrow7 hg7 hloc7)
    have hrow8:Row oW w7 W.heap.size 9 v7 (Mc.lT x (l.take k) ++ [Mc.kI X y.2.1 y.2.2.1 y.2.2.2]):=by rw [HRS.out];exact hrow7
    exact ⟨⟨k + 1,v7,_,_,_,L2,_,by omega,by simp,rfl,HR.out.next HY.out HE.out (by omega) HSZ5.out.1 H50.out H51.out HM5.out HB5.out hrow8 hg7 hloc7⟩,by simp [intOf];omega⟩
   ·have t0:(E != 0) = true:=by simp [h0]
    have HE2:Hid (Mc.gO x l = E):=by
     obtain ⟨hk2,he2⟩:=MN.1 HY.out
     have hsp:l = l.take k ++ y :: l.drop (k + 1):=by
      rw [<-he2,<-Ob hk2,Nj]
     have h1:=Mc.Hi x (l.take k) y (l.drop (k + 1)) HR.out.err (by rw [<-HR.out.at_,HE.out];exact h0)
     rw [<-hsp,<-HR.out.at_,HE.out] at h1
     exact h1
    have HS2:Hid (Mc.gT x l = Sh.EN/\Mc.ky x l = []):=by
     refine ⟨?_,?_⟩
     ·unfold Mc.gT;rw [HE2.out,ME h0]
     ·unfold Mc.ky;rw [HE2.out,ME h0]
    obtain ⟨x0,x1,x2,x3⟩:=dg H31.out
    have f0:=dw H31.out
    have hbv:Below w.1.size w V3:=HB2.out.trans (hb3.mono HB2.out.size)
    obtain ⟨q1,q2,q3⟩:=jI (w:=w) H31.out (Ms.none (λ_=>False) V3) (λh=>h) hbv (by omega)
    have HF:Hid _:=And.intro q1 (And.intro (q2.imp (T:=λb=>S b\/w.heap.size<=b) λ_ h _=>h.elim) q3)
    have HE9:Hid (((((w2.alloc (gB (.slice e1 m1 f1) (.slice e2 m2 f2) (.slice e3 m3 f3) D)).setCell ⟨w.1.size+1,0,none⟩ (.slice none 0 0)).setCell ⟨w.1.size+1,1,none⟩ (.slice none 0 0)).setCell ⟨w.1.size+1,2,none⟩ (.slice none 0 0)).setCell ⟨w.1.size+1,3,none⟩ (.int .i64 0)=V3.setCells (w.1.size+1) 0 (cS (.slice none 0 0) (.slice none 0 0) (.slice none 0 0) Sh.EN.dn)):=by show _=V3.setCells _ _ _;rw [hV3];rfl
    rw [hV3] at x0 x1 x2 x3
    simp only [hV3] at f0
    clear q1 q2 q3 h0 hV3 hbv hb3 H20 H21 H30 H31 H33 HM2 HB2 HWV
    go_wp2
    (try simp only[Exit.inBlock,Exit.then])
    rw [HE9.out]
    generalize V3.setCells (w.heap.size + 1) 0 (cS (.slice none 0 0) (.slice none 0 0) (.slice none 0 0) Sh.EN.dn) = WF at HF HE9 |-
    obtain ⟨d0,d1,d2,d3⟩:=dg HF.out.1
    refine MK (v:=.tuple #[iB (.slice none 0 0) (.slice none 0 0) (.slice none 0 0) 0,.slice none 0 0,.int .i64 E]) (by simp [results,Tryz.results12,go_sem,d0,d1,d2,d3];try rfl) rfl ⟨none,0,0,none,0,0,none,0,0,none,0,0,[],?_,?_,?_,HF.out.2.2⟩
    ·rw [HS2.out.1,HE2.out];rfl
    ·rw [HS2.out.1];exact HF.out.2.1
    ·rw [HS2.out.2];exact At.nil
  ·obtain rfl:k = n:=by omega
   have et:l.take k=l:=MY (by rw [HLN.out];exact MI _)
   have herr:=HR.out.err
   have hat:=HR.out.at_
   have hrw:=HR.out.row
   rw [et] at herr hat hrw
   have HS2:Hid (Mc.gO x l = 0/\Mc.gT x l = X/\Mc.ky x l = Mc.lT x l):=by
    refine ⟨herr,?_,?_⟩
    ·unfold Mc.gT;rw [MC herr,hat]
    ·unfold Mc.ky;rw [MC herr]
   obtain ⟨⟨a1,n1,d1,rfl⟩,⟨a2,n2,d2,rfl⟩,a3,n3,d3,rfl⟩:=HR.out.ms.mP
   obtain ⟨gp,gc,hgs⟩:=hrw.slice
   obtain ⟨gn,hgn⟩:∃ m,(Mc.lT x l).length = m:=⟨_,rfl⟩
   rw [hgn] at hgs
   have hws:=HWS.out
   have HRW:Hid (At oW (λb=>W.1.size<=b) wr g (Mc.lT x l)):=hrw.at
   subst hgs
   obtain ⟨x0,x1,x2,x3⟩:=dg HR.out.box
   obtain ⟨z0,z1,z2,z3⟩:=dg HR.out.out
   have f0:=dw HR.out.out
   obtain ⟨q1,q2,q3⟩:=jI (w:=w) HR.out.out HR.out.ms (by rintro ⟨h | h,-⟩ <;> omega) HR.out.bl (by omega)
   have q4:=dB (A:=w.heap.size + 1) (by show ¬ W.heap.size<=w.heap.size + 1;omega) (cS (.slice a1 n1 d1) (.slice a2 n2 d2) (.slice a3 n3 d3) X.dn) 0 wr HRW.out
   have HF:Hid _:=And.intro q1 (And.intro (q2.imp (T:=λb=>S b\/w.heap.size<=b) λb h _=>h.1.imp And.left λh=>by omega) q3)
   have HF2:Hid (At oW (λb=>w.1.size<=b) (wr.setCells (w.1.size+1) 0 (cS (.slice a1 n1 d1) (.slice a2 n2 d2) (.slice a3 n3 d3) X.dn)) (.slice gp gn gc) (Mc.lT x l)):=q4.imp λb h _=>by have h1:W.1.size<=b:=h;show w.heap.size<=b;omega
   have HE9:Hid ((((wr.setCell ⟨w.heap.size + 1,0,none⟩ (.slice a1 n1 d1)).setCell ⟨w.heap.size + 1,1,none⟩ (.slice a2 n2 d2)).setCell ⟨w.heap.size + 1,2,none⟩ (.slice a3 n3 d3)).setCell ⟨w.heap.size + 1,3,none⟩ (.int .i64 X.dn) = wr.setCells (w.heap.size + 1) 0 (cS (.slice a1 n1 d1) (.slice a2 n2 d2) (.slice a3 n3 d3) X.dn)):=rfl
   clear q1 q2 q3 q4 herr hat hrw hgn et
   go_wp2
   (try simp only[Exit.inBlock,Exit.then])
   rw [HE9.out]
   generalize wr.setCells (w.heap.size + 1) 0 (cS (.slice a1 n1 d1) (.slice a2 n2 d2) (.slice a3 n3 d3) X.dn) = WF at HF HF2 HE9 |-
   obtain ⟨d0,d1',d2',d3'⟩:=dg HF.out.1
   refine MK (v:=.tuple #[iB (.slice a1 n1 d1) (.slice a2 n2 d2) (.slice a3 n3 d3) X.dn,.slice gp gn gc,.int .i64 0]) (by simp [results,Tryz.results12,go_sem,d0,d1',d2',d3']) rfl ⟨a1,n1,d1,a2,n2,d2,a3,n3,d3,gp,gn,gc,L1,?_,?_,?_,HF.out.2.2⟩
   ·rw [HS2.out.1,HS2.out.2.1]
   ·rw [HS2.out.2.1];exact HF.out.2.1
   ·rw [HS2.out.2.2];exact HF2.out
theorem Hw (w):Calls Tryz.prog 16 #[] w λe w'=>∃ ap n cp L,e=.returned (iB (.slice ap n cp) (.slice none 0 0) (.slice none 0 0) 0)/\cD (λb=>w.1.size<=b) w' (.slice ap n cp) L/\pl L=It.new/\Bw w w':=by
 obtain⟨W,g⟩:=qF (w.alloc sI);have a:Hid _:=qB g;have c:Hid _:=qC g;have q:=(MH.1 c).1;go_enter Tryz.func16,Tryz.ntmps16;go_wp2_with fail;rw[<-g];clear g;refine (IE W).mono ?_;rintro e h ⟨u,L,rfl,l,m,f⟩;obtain⟨ap,cp,o,-,-⟩:=l.open;obtain⟨n,p⟩:=qE L.length;rw[p]at o;subst o;have i:Hid (cD (λb=>w.1.size<b) h (.slice ap n cp) L):=l.imp (λb f _=>by omega);have j:=hH m;have k:Hid (Bw w h):=a.out.trans (f.mono a.size);have d:=qK f c;obtain⟨s,t,x,y⟩:=dg d;have r:=dw d;clear l m f p;go_wp2
 refine MK (v:=iB (.slice ap n cp) (.slice none 0 0) (.slice none 0 0) 0) ?_ rfl ⟨ap,n,cp,L,rfl,?_,j,?_⟩
 ·rw[cN rfl]
  go_simp
 ·exact (df (A:=w.1.size) (S:=λb=>w.1.size<b) qo (cS (.slice ap n cp) (.slice none 0 0) (.slice none 0 0) 0) 0 h i).imp (λb f _=>by omega)
 ·exact da qn (cS (.slice ap n cp) (.slice none 0 0) (.slice none 0 0) 0) 0 h k
theorem FZ (w):Calls Tryz.prog 8 #[] w λe w'=>∃ ap n cp L,e=.returned (iB (.slice ap n cp) (.slice none 0 0) (.slice none 0 0) 0)/\cD (λb=>w.1.size<=b) w' (.slice ap n cp) L/\pl L=It.new/\Bw w w':=by
 obtain⟨W,g⟩:=qF (w.alloc sI);have a:Hid _:=qB g;have c:Hid _:=qC g;have o:=(MH.1 c).1;go_enter Tryz.func8,Tryz.ntmps8;go_wp2_with fail;rw[<-g];clear g;refine (Hw W).mono ?_;rintro e h ⟨ap,n,cp,L,rfl,l,m,f⟩;have i:Hid (cD (λb=>w.1.size<b) h (.slice ap n cp) L):=l.imp (λb f _=>by omega);have j:=hH m;have k:Hid (Bw w h):=a.out.trans (f.mono a.size);have d:=qK f c;obtain⟨q,r,s,t⟩:=dg d;have p:=dw d;clear l m f;go_wp2
 refine MK (v:=iB (.slice ap n cp) (.slice none 0 0) (.slice none 0 0) 0) ?_ rfl ⟨ap,n,cp,L,rfl,?_,j,?_⟩
 ·rw[cN rfl]
  go_simp
 ·exact (df (A:=w.1.size) (S:=λb=>w.1.size<b) qo (cS (.slice ap n cp) (.slice none 0 0) (.slice none 0 0) 0) 0 h i).imp (λb f _=>by omega)
 ·exact da qn (cS (.slice ap n cp) (.slice none 0 0) (.slice none 0 0) 0) 0 h k
end Go.Proofs.YtiifhfmekbhlnaaGreat
namespace Go.Proofs.YtiifhfmekbhlnaaGreat.Es
open ChangeShapes WideShapes ChangeAt RowKit Deep
theorem Iq (w)(x:fB):(binOp .neq 47 (VS x) (VS x)).run Tryz.prog w=.ok (.bool false) w:=by
 obtain⟨a,b,c⟩:=x
 go_simp
theorem Cn {S T:Nat->Prop}(u v)(l)(w)(hu:At ES S w u l)(hv:At ES T w v l) :
  Calls Tryz.prog 24 #[u,v] w λe w'=>e=.returned (.bool true)/\Bw w w':=by
 obtain⟨E,F,rfl,m,o⟩:=hu.wide.open;obtain⟨G,p,rfl,-,r⟩:=hv.wide.open;clear hu hv;unfold maxLen at m;obtain⟨n,g⟩:=qE l.length;rw[g]at m |-;have z:Hid (l.length=n):=g;have A:=hH o;have B:=hH r;clear g o r;go_enter Tryz.func24,Tryz.ntmps24;go_wp2;go_loopw [8] (λi wr=>∃ k:Nat,k<=n/\i=.int .i64 k/\Hid (Bw w wr)) (λi _=>n-(intOf i).toNat)
 case atStart=>exact⟨0,MV _,rfl,MJ _ _⟩
 case round =>
  obtain⟨k,J,rfl,a⟩:=hrel
  by_cases hlt:k<n
  ·obtain⟨x,c⟩ : ∃ x,l[k]?=some x := ⟨_,MF (by rw[z.out];exact hlt)⟩
   obtain⟨b,H,rfl,-,I,s⟩:=A.out k x c;obtain⟨K,t,rfl,-,h,d⟩:=B.out k x c;obtain⟨L,M,N⟩:=kC a I s;obtain⟨O,P,Q⟩:=kC a h d;clear s d c;have j:(k:Int)<(n:Int):=qo
   have C:decide ((n:Int)<=(k:Int))=false:=MO (by omega);have D:∀ w',(binOp .neq 47 (VS x) (VS x)).run Tryz.prog w'=.ok (.bool false) w':=λw'=>Iq w' x
   have f:Hid (∀ q,Bw w (wr.drewN q)):=λ_=>⟨a.os,a.tape,a.output,a.size,a.block⟩
   go_wp2_with fail
   go_quiet (fail)
   go_wp2
   go_roundw
   case rel=>exact⟨k+1,qo,by go_num,f _⟩
   case measure=>simp[intOf];omega
  ·obtain rfl : k=n := by omega
   go_wp2;go_ret;exact⟨rfl,a⟩
end Go.Proofs.YtiifhfmekbhlnaaGreat.Es
namespace Go.Proofs.YtiifhfmekbhlnaaGreat
open ChangeShapes WideShapes ChangeAt RowKit Deep It
theorem yw {S T:Nat->Prop}(u v)(l)(w)(hu:At EE S w u l)(hv:At EE T w v l) :
  Calls Tryz.prog 38 #[u,v] w λe w'=>e=.returned (.bool true)/\Bw w w':=by
 obtain⟨O,P,rfl,G,H⟩:=hu.open;obtain⟨Q,I,rfl,_,J⟩:=hv.open;clear hu hv;unfold maxLen at G;obtain⟨n,q⟩:=qE l.length;rw[q]at G |-;have K:=hH q;have L:Hid (∀ i x,l[i]?=some x->∃ b c,O=some ⟨b,c,none⟩/\S b/\b<w.1.size/\∀ k u,(EE.cells x)[k]?=some u->w.cell? ⟨b,c+(i*4+k),none⟩=some u):=H;have M:Hid (∀ i x,l[i]?=some x->∃ b c,Q=some ⟨b,c,none⟩/\T b/\b<w.1.size/\∀ k u,(EE.cells x)[k]?=some u->w.cell? ⟨b,c+(i*4+k),none⟩=some u):=J;clear q H J;go_enter Tryz.func38,Tryz.ntmps38;go_wp2;go_loopw [8] (λi R=>∃ k:Nat,k<=n/\i=.int .i64 k/\Bw w R) (λi _=>n-(intOf i).toNat)
 case atStart=>exact⟨0,MV _,rfl,MJ _ _⟩
 case round =>
  obtain⟨k,U,rfl,a⟩:=hrel
  by_cases hlt:k<n
  ·obtain⟨y,h⟩ : ∃ y,l[k]?=some y := ⟨_,MF (by rw[K.out];exact hlt)⟩
   obtain⟨b,c,rfl,_,m,j⟩:=L.out k y h;obtain⟨o,d,rfl,_,g,f⟩:=M.out k y h;have r:=j 0 _ rfl;have s:=j 1 _ rfl;have t:=j 2 _ rfl;have z:=j 3 _ rfl;have A:=f 0 _ rfl;have B:=f 1 _ rfl;have C:=f 2 _ rfl;have D:=f 3 _ rfl;rw[<-a.cell (p:=⟨b,c+(k*4+0),none⟩) m,OJ]at r;rw[<-a.cell (p:=⟨b,c+(k*4+1),none⟩) m,<-NC]at s;rw[<-a.cell (p:=⟨b,c+(k*4+2),none⟩) m,<-NC]at t;rw[<-a.cell (p:=⟨b,c+(k*4+3),none⟩) m,<-NC]at z;rw[<-a.cell (p:=⟨o,d+(k*4+0),none⟩) g,OJ]at A;rw[<-a.cell (p:=⟨o,d+(k*4+1),none⟩) g,<-NC]at B;rw[<-a.cell (p:=⟨o,d+(k*4+2),none⟩) g,<-NC]at C;rw[<-a.cell (p:=⟨o,d+(k*4+3),none⟩) g,<-NC]at D;obtain⟨V,W,X,Y⟩:=y;simp only at r s t z A B C D;have E:(k:Int)<(n:Int):=qo
   have N:decide ((n:Int)<=(k:Int))=false:=qt
   have F:decide (n<=k)=false:=qt
   clear h j f;go_wp2
   go_quiet (fail)
   go_wp2
   go_roundw
   case rel=>exact⟨k+1,qo,by go_num,Ol a _⟩
   case measure=>simp[intOf];omega
  ·obtain rfl : k=n := by omega
   go_wp2;go_ret;exact⟨qs,a⟩
theorem wO {w:World}{b o:Nat}{x:Rw}(h:eight w b o x)(p:jy w):eight p.out b o x:=h.below p.below (Nk _ _ h.1)
theorem zi {S T : Nat → Prop}(u v )(L M )(w )(hu : cD S w u L)(hv : cD T w v M)(hp : pl L=pl M) :
  Calls Tryz.prog 22 #[u,v] w λe w'=>e=.returned (.bool true)/\Bw w w':=by
 obtain⟨ao,ab,rfl,Q,R⟩:=hu.open;obtain⟨bo,U,rfl,_,V⟩:=hv.open;clear hu hv;unfold maxLen at Q;have f:M.length=L.length:=by have:=Ox List.length hp;simpa [pl]using this.symm
 rw[f];obtain⟨n,G⟩:=qE L.length;rw[G]at Q f |-;have H:Hid (L.length=n/\M.length=n):=⟨G,f⟩;have HP:=hH hp;have HX:=hH R;have HY:=hH V;clear G f R V hp;go_enter Tryz.func22,Tryz.ntmps22;go_wp2;go_loopw [8] (λi wr=>∃ k:Nat,k<=n/\i=.int .i64 k/\Bw w wr) (λi _=>n-(intOf i).toNat)
 case atStart=>exact⟨0,MV _,rfl,MJ _ _⟩
 case round =>
  obtain⟨k,hk,rfl,d⟩:=hrel
  by_cases hlt:k<n
  ·obtain⟨x,m⟩ : ∃ y,L[k]?=some y := ⟨_,MF (by rw[H.out.1];exact hlt)⟩
   obtain⟨y,o⟩:∃ y,M[k]?=some y:=⟨_,MF (by rw[H.out.2];exact hlt)⟩;have j:y.i=x.i:=by
    have:=Ox (λl=>l[k]?) HP;simp only[pl,List.getElem?_map,m,o,Option.map_some,Option.some.injEq]at this;exact this.symm
   obtain⟨⟨b,h,rfl,X,Y⟩,q⟩:=HX.out k x m;obtain⟨⟨b',Z,rfl,B,C⟩,r⟩:=HY.out k y o;have I:Hid (∀ W,wr.grownBy W none->Calls Tryz.prog 37 #[.slice x.rp x.rn x.rc,.slice y.rp y.rn y.rc] W λe w'=>e=.returned (.bool true)/\Bw W w'):=λW D=>by
    have E:=((q.up d).up (dR D qn)).1.fields;have A:=((r.up d).up (dR D qn)).1.fields;rw[j]at A;exact E4 _ _ _ W E A
   have J:Hid (∀ W,wr.grownBy W none->Calls Tryz.prog 38 #[.slice x.ep x.en x.ec,.slice y.ep y.en y.ec] W λe w'=>e=.returned (.bool true)/\Bw W w'):=λW D=>by
    have E:=((q.up d).up (dR D qn)).2.1;have A:=((r.up d).up (dR D qn)).2.1;rw[j]at A;exact yw _ _ _ W E A
   have c:=wO (Y.below d X);have a:=wO (C.below d B);unfold eight at c a;rw[j]at a;have K:=hH d;obtain⟨⟨g,kk,l,s,t,rs,es,nx⟩,rp,rn,rc,ep,en,ec⟩:=x;obtain⟨yi,ac,ad,af,ag,ah,ai⟩:=y;simp only at c a I J;have a0:=λp=>(c p).1
   have a1:=λp=>(c p).2.1
   have a2:=λp=>(c p).2.2.1
   have a3:=λp=>(c p).2.2.2.1
   have a4:=λp=>(c p).2.2.2.2.1
   have a5:=λp=>(c p).2.2.2.2.2.1
   have a6:=λp=>(c p).2.2.2.2.2.2.1
   have a7:=λp=>(c p).2.2.2.2.2.2.2
   have b0:=λp=>(a p).1
   have b1:=λp=>(a p).2.1
   have b2:=λp=>(a p).2.2.1
   have b3:=λp=>(a p).2.2.2.1
   have b4:=λp=>(a p).2.2.2.2.1
   have b5:=λp=>(a p).2.2.2.2.2.1
   have b6:=λp=>(a p).2.2.2.2.2.2.1
   have b7:=λp=>(a p).2.2.2.2.2.2.2
   have N:(k:Int)<(n:Int):=qo
   have aa:decide ((n:Int)<=(k:Int))=false:=qt
   have O:decide (n<=k)=false:=qt
   have P:=ki wr;clear m o j Y C q r c a d X B;go_wp2_with fail;simp only[List.cons_append,List.nil_append,List.append_eq];refine fK qk qk ?_
   repeat (go_big_quiet_step (first | (go_at_call 37;refine fN (jy.grown _) (I _ (jy.grown _))) | (go_at_call 38;refine fN (jy.grown _) (J _ (jy.grown _)))))
   refine wpQuiet_nil ?_;rintro wq ⟨p,rfl⟩;have F:=hH<|K.out.trans (p.below.mono K.size);go_wp2
   go_roundw
   case rel=>exact⟨k+1,qo,by go_num,F⟩
   case measure=>simp[intOf];omega
  ·obtain rfl : k=n := by omega
   go_wp2;go_ret;exact⟨qs,d⟩
end Go.Proofs.YtiifhfmekbhlnaaGreat
namespace Go.Proofs.YtiifhfmekbhlnaaGreat.Os
open ChangeShapes WideShapes ChangeAt RowKit Deep
theorem Bo {S T:Nat->Prop}(u v)(l)(w)(hu:At EO S w u l)(hv:At EO T w v l) :
  Calls Tryz.prog 23 #[u,v] w λe w'=>e=.returned (.bool true)/\Bw w w':=by
 obtain⟨O,P,rfl,G,H⟩:=hu.open;obtain⟨Q,I,rfl,_,J⟩:=hv.open;clear hu hv;unfold maxLen at G;obtain⟨n,q⟩:=qE l.length;rw[q]at G |-;have K:=hH q;have L:Hid (∀ i x,l[i]?=some x->∃ b c,O=some ⟨b,c,none⟩/\S b/\b<w.1.size/\∀ k u,(EO.cells x)[k]?=some u->w.cell? ⟨b,c+(i*4+k),none⟩=some u):=H;have M:Hid (∀ i x,l[i]?=some x->∃ b c,Q=some ⟨b,c,none⟩/\T b/\b<w.1.size/\∀ k u,(EO.cells x)[k]?=some u->w.cell? ⟨b,c+(i*4+k),none⟩=some u):=J;clear q H J;go_enter Tryz.func23,Tryz.ntmps23;go_wp2;go_loopw [8] (λi R=>∃ k:Nat,k<=n/\i=.int .i64 k/\Bw w R) (λi _=>n-(intOf i).toNat)
 case atStart=>exact⟨0,MV _,rfl,MJ _ _⟩
 case round =>
  obtain⟨k,U,rfl,a⟩:=hrel
  by_cases hlt:k<n
  ·obtain⟨y,h⟩ : ∃ y,l[k]?=some y := ⟨_,MF (by rw[K.out];exact hlt)⟩
   obtain⟨b,c,rfl,_,m,j⟩:=L.out k y h;obtain⟨o,d,rfl,_,g,f⟩:=M.out k y h;have r:=j 0 _ rfl;have s:=j 1 _ rfl;have t:=j 2 _ rfl;have z:=j 3 _ rfl;have A:=f 0 _ rfl;have B:=f 1 _ rfl;have C:=f 2 _ rfl;have D:=f 3 _ rfl;rw[<-a.cell (p:=⟨b,c+(k*4+0),none⟩) m,OJ]at r;rw[<-a.cell (p:=⟨b,c+(k*4+1),none⟩) m,<-NC]at s;rw[<-a.cell (p:=⟨b,c+(k*4+2),none⟩) m,<-NC]at t;rw[<-a.cell (p:=⟨b,c+(k*4+3),none⟩) m,<-NC]at z;rw[<-a.cell (p:=⟨o,d+(k*4+0),none⟩) g,OJ]at A;rw[<-a.cell (p:=⟨o,d+(k*4+1),none⟩) g,<-NC]at B;rw[<-a.cell (p:=⟨o,d+(k*4+2),none⟩) g,<-NC]at C;rw[<-a.cell (p:=⟨o,d+(k*4+3),none⟩) g,<-NC]at D;obtain⟨V,W,X,Y⟩:=y;simp only at r s t z A B C D;have E:(k:Int)<(n:Int):=qo
   have N:decide ((n:Int)<=(k:Int))=false:=qt
   have F:decide (n<=k)=false:=qt
   clear h j f;go_wp2
   go_quiet (fail)
   go_wp2
   go_roundw
   case rel=>exact⟨k+1,qo,by go_num,Ol a _⟩
   case measure=>simp[intOf];omega
  ·obtain rfl : k=n := by omega
   go_wp2;go_ret;exact⟨qs,a⟩
end Go.Proofs.YtiifhfmekbhlnaaGreat.Os
namespace Go.Proofs.YtiifhfmekbhlnaaGreat
open ChangeShapes WideShapes ChangeAt RowKit Deep It
theorem KE (w)(x y):Bw w ((w.alloc x).alloc y):=(qG _ _).alloc qs _
theorem B6 {S T S2 T2 S3 T3:Nat->Prop}(vi vo vs ui uo us)(dn)(L M)(O)(Z)(w)(h1:cD S w vi L)(h2:cD T w ui M)(hp:pl L=pl M)(h3:At Os.EO S2 w vo O)(h4:At Os.EO T2 w uo O)(h5:At Es.ES S3 w vs Z)(h6:At Es.ES T3 w us Z) :
  Calls Tryz.prog 11 #[iB vi vo vs dn,iB ui uo us dn] w λe w'=>e=.returned (.bool true)/\Bw w w':=by
 have H1:=hH h1;have H2:=hH h2;have H3:=hH h3;have H4:=hH h4;have H5:=hH h5;have H6:=hH h6;have HP:=hH hp;obtain⟨k,l,R,-,-⟩:=h1.open;obtain⟨m,n,U,-,-⟩:=h2.open;obtain⟨o,p,V,-,-⟩:=h3.open;obtain⟨q,r,X,-,-⟩:=h4.open;obtain⟨s,t,Y,-,-⟩:=h5.open;obtain⟨u,v,e6,-,-⟩:=h6.open;obtain⟨z,A⟩:=qE L.length;obtain⟨B,C⟩:=qE M.length;obtain⟨a,D⟩:=qE O.length;obtain⟨b,E⟩:=qE Z.length;rw[A]at R;rw[C]at U;rw[D]at V X;rw[E]at Y e6;subst R U V X Y e6;have t0:(dn==dn)=true:=OS _;have HW:=hH<|KE w;obtain⟨W,F⟩:=qF ((w.alloc (gB (.slice k z l) (.slice o a p) (.slice s b t) dn)).alloc (gB (.slice m B n) (.slice q a r) (.slice u b v) dn));have G:=hH<|show Bw w W by rw[F];exact HW _ _
 have P:=hH<|show W.heap[w.heap.size]?=some (gB (.slice k z l) (.slice o a p) (.slice s b t) dn) by rw[F];exact (ML _ _ _ qs).trans (MD _ _)
 have Q:=hH<|show W.heap[w.heap.size+1]?=some (gB (.slice m B n) (.slice q a r) (.slice u b v) dn) by rw[F];have h:=MD (w.alloc (gB (.slice k z l) (.slice o a p) (.slice s b t) dn)) (gB (.slice m B n) (.slice q a r) (.slice u b v) dn);simpa using h
 clear h1 h2 h3 h4 h5 h6 A C D E hp;go_enter Tryz.func11,Tryz.ntmps11;go_wp2_with fail;rw[<-F];clear F;refine (zi _ _ L M _ (H1.up G) (H2.up G) HP).mono ?_;rintro e' J ⟨rfl,f⟩;have c:=qJ G f;have i:=qK f P;have j:=qK f Q;obtain⟨x0,x1,x2,x3⟩:=dg i;obtain⟨y0,y1,y2,y3⟩:=dg j;clear f;go_wp2_with fail;refine (Os.Bo _ _ O _ (H3.up c) (H4.up c)).mono ?_;rintro e' K ⟨rfl,g⟩;have d:=qJ c g;have H:=qK g i;have I:=qK g j;clear g x0 x1 x2 x3 y0 y1 y2 y3;obtain⟨x0,x1,x2,x3⟩:=dg H;obtain⟨y0,y1,y2,y3⟩:=dg I;go_wp2_with fail;refine (Es.Cn _ _ Z _ (H5.up d) (H6.up d)).mono ?_;rintro e' w3 ⟨rfl,N⟩;go_wp2;go_ret;exact⟨rfl,d.trans (N.mono d.size)⟩
theorem GQ (w):Calls Tryz.prog 15 #[] w λe w'=>e=.returned (DH 0 5 1 Mc.made)/\Bw w w':=by
 obtain⟨W,d⟩:=qF (w.alloc (yP 0 0 0 ⟨#[]⟩));have l:=hH<|show Bw w W by rw[d];exact qG _ _
 have n:=hH<|show W.heap[w.heap.size]?=some (yP 0 0 0 ⟨#[]⟩) by rw[d];exact MD _ _
 go_enter Tryz.func15,Tryz.ntmps15;go_wp2_with fail;rw[<-d];clear d;refine (Ks.sS Nf.c1 W).mono ?_;rintro e p ⟨rfl,c⟩;have b:Hid _:=cK n c;have g:=qJ l c;have o:Hid (Ks.Ak.db Nf.c1=Mc.made):=rfl;rw[o.out];obtain⟨m,k⟩:=qE Mc.made;have h:Hid _:=k;rw[k];generalize Ks.Ak.dd Nf.c1=q;clear c n l k;obtain⟨z,A,B,C⟩:=iR b;have y:=dw b;obtain⟨f,a⟩:=qF (p.setCells w.1.size 0 [.int .i64 0,.int .i64 5,.int .i64 1,.string m]);have r:=hH<|show f.heap[w.heap.size]?=some (yP 0 5 1 m) by rw[a];exact dO _ b rfl
 have i:=hH<|show Bw w f by rw[a];exact da qn _ _ _ g
 have j:=hH<|show (((p.setCell ⟨w.heap.size,0,none⟩ (.int .i64 0)).setCell ⟨w.heap.size,1,none⟩ (.int .i64 5)).setCell ⟨w.heap.size,2,none⟩ (.int .i64 1)).setCell ⟨w.heap.size,3,none⟩ (.string m)=f by rw[a];rfl
 clear a o;go_wp2
 rw[j.out];obtain⟨s,t,u,x⟩:=iR r;refine MK (v:=DH 0 5 1 m) (by simp[results,Tryz.results15,go_sem,s,t,u,x]) rfl ⟨by rw[h.out],i⟩
theorem Mc.JF {L:List Rw}(h:pl L=It.new):Sp.m6 L:=λr b=>by
 have:r.i∈It.new:=by rw[<-h];exact NI.2 ⟨r,b,rfl⟩
 simp[It.new,It.fresh]at this;rw[this];intro e a
 cases a
theorem qu (w):Calls Tryz.prog 8 #[] w λe w'=>∃ ap n cp L,e=.returned (iB (.slice ap n cp) (.slice none 0 0) (.slice none 0 0) 0)/\Ms (λb=>w.1.size<=b) w' (.slice ap n cp) (.slice none 0 0) (.slice none 0 0) L Mc.x0/\Bw w w' :=
 (FZ w).mono λ_ _ ⟨ap,n,cp,L,h1,h2,h3,h4⟩=>⟨ap,n,cp,L,h1,⟨h2,h3,Mc.JF h3,At.nil,At.nil⟩,h4⟩
theorem uH:Mc.made.size<=1048576:=by decide +kernel
theorem pP {w:World}{A k i j:Nat}{u v:Value}(h:w.cell? ⟨A,i,none⟩=some u)(hne:A≠k):(w.setCell ⟨k,j,none⟩ v).cell? ⟨A,i,none⟩=some u:=by
 have:=MM w ⟨k,j,none⟩ v A hne;simpa [World.cell?,this]using h
theorem LD {V:World}{A k:Nat}{a b c d e f g h:Value}(hS:V.cell? ⟨A,0,none⟩=some a/\V.cell? ⟨A,1,none⟩=some b/\V.cell? ⟨A,2,none⟩=some c/\V.cell? ⟨A,3,none⟩=some d)(hne:A≠k) :
  ((((V.setCell ⟨k,0,none⟩ e).setCell ⟨k,1,none⟩ f).setCell ⟨k,2,none⟩ g).setCell ⟨k,3,none⟩ h).cell? ⟨A,0,none⟩=some a/\((((V.setCell ⟨k,0,none⟩ e).setCell ⟨k,1,none⟩ f).setCell ⟨k,2,none⟩ g).setCell ⟨k,3,none⟩ h).cell? ⟨A,1,none⟩=some b/\((((V.setCell ⟨k,0,none⟩ e).setCell ⟨k,1,none⟩ f).setCell ⟨k,2,none⟩ g).setCell ⟨k,3,none⟩ h).cell? ⟨A,2,none⟩=some c/\((((V.setCell ⟨k,0,none⟩ e).setCell ⟨k,1,none⟩ f).setCell ⟨k,2,none⟩ g).setCell ⟨k,3,none⟩ h).cell? ⟨A,3,none⟩=some d:=by
 obtain⟨l,m,n,o⟩:=hS;have j:∀ {i:Nat} {u:Value},V.cell? ⟨A,i,none⟩=some u->((((V.setCell ⟨k,0,none⟩ e).setCell ⟨k,1,none⟩ f).setCell ⟨k,2,none⟩ g).setCell ⟨k,3,none⟩ h).cell? ⟨A,i,none⟩=some u:=λp=>pP (pP (pP (pP p hne) hne) hne) hne
 exact⟨j l,j m,j n,j o⟩
theorem rz (w:World):Calls Tryz.prog 7 #[] w λe w'=>e=.returned (.bool true)/\Bw w w':=by
 obtain⟨s1,s2,s3,s4⟩:=Mc.Df;obtain⟨t1,t2⟩:=Mc.KW;have hk:Mc.Iw Mc.x1 5 1=Mc.r0/\Mc.GN Mc.x1 5 1=true:=by
  unfold Mc.Iw Mc.GN;rw[MC Mc.FL,s4,s3,Mc.FL];exact⟨rfl,rfl⟩
 have aa:Hid (∀ (S:Nat->Prop) (p q s:Value) (L:List Rw) (V:World),Ms S V p q s L Mc.x0->Calls Tryz.prog 9 #[iB p q s 0,DH 0 5 1 Mc.made] V λe w'=>∃ F G H I J K M N O L',e=.returned (.tuple #[iB (.slice F G H) (.slice I J K) (.slice M N O) 1,.string Mc.r0,.int .i64 0])/\Ms (λb=>S b\/V.1.size<=b) w' (.slice F G H) (.slice I J K) (.slice M N O) L' Mc.x1/\Bw V w'):=λS p q s L V h=>by
  have:=oA p q s L Mc.x0 0 5 1 Mc.made V h uH;rw[show Mc.j8 Mc.x0 5 1 Mc.made=Mc.x1 from rfl,s1,s2,Mc.su]at this;exact this
 have af:Hid (∀ (S:Nat->Prop) (p q s:Value) (L:List Rw) (V:World),Ms S V p q s L Mc.x1->Calls Tryz.prog 9 #[iB p q s 1,DH 0 5 1 Mc.made] V λe w'=>∃ F G H I J K M N O L',e=.returned (.tuple #[iB (.slice F G H) (.slice I J K) (.slice M N O) 1,.string Mc.r0,.int .i64 0])/\Ms (λb=>S b\/V.1.size<=b) w' (.slice F G H) (.slice I J K) (.slice M N O) L' Mc.x1/\Bw V w'):=λS p q s L V h=>by
  have:=oA p q s L Mc.x1 0 5 1 Mc.made V h uH;rw[t1,t2,s2,Mc.Hj]at this;exact this
 have ab:Hid (∀ (S:Nat->Prop) (p q s:Value) (L:List Rw) (V:World),Ms S V p q s L Mc.x1->Calls Tryz.prog 10 #[iB p q s 1,.int .i64 5,.int .i64 1] V λe w'=>e=.returned (.tuple #[.string Mc.r0,.bool true])/\Bw V w'):=λS p q s L V h=>by
  have:=tT p q s L Mc.x1 5 1 V h;rw[hk.1,hk.2,s2]at this;exact this
 have ag:Hid _:=GQ;have ax:(Mc.r0.toList==([]:List UInt8))=false:=by decide +kernel
 have aA:Hid (Mc.x0.dn=0):=rfl;generalize Mc.made=m at aa af ag;generalize Mc.r0=r at aa af ab ax;clear s1 s2 s3 s4 t1 t2 hk;go_enter Tryz.func7,Tryz.ntmps7;go_wp2_with fail;refine (qu w).mono ?_;rintro e w1 ⟨ap,n,cp,L,rfl,au,av⟩;have al:Hid _:=au;have am:Hid _:=av;clear au av;go_wp2_with fail;refine (ag.out _).mono ?_;rintro e w2 ⟨rfl,aj⟩;have an:Hid _:=al.out.up aj;have ac:=qJ am aj;clear aj al am;go_wp2_with fail;refine (aa.out _ _ _ _ _ _ an.out).mono ?_;rintro e w3 ⟨F,G,H,I,J,K,M,N,O,L3,rfl,aw,ak⟩;obtain⟨W,hW⟩:=qF (w3.alloc (gB (.slice F G H) (.slice I J K) (.slice M N O) 1));obtain⟨A,hA⟩:=qF w3.1.size;have ah:Bw w3 W:=by rw[hW];exact qG _ _
 have HM:Hid _:=(aw.up ah).imp λ_ _ hl=>hl
 have HB:Hid _:=(ac.out.trans (ak.mono ac.out.size)).trans (ah.mono (MS ac.out.size ak.size));have HX:Hid (W.1[A]?=some (gB (.slice F G H) (.slice I J K) (.slice M N O) 1)):=by show _=_;rw[hW,hA];exact MD _ _
 have ay:Hid _:=(qL HX.out);clear aw ak ah an ac aa;go_wp2_with fail;rw[<-hW,<-hA];clear hW hA;have ao:Hid (∀ V:World,Bw W V->(λV:World=>V.cell? ⟨A,0,none⟩=some (.slice F G H)/\V.cell? ⟨A,1,none⟩=some (.slice I J K)/\V.cell? ⟨A,2,none⟩=some (.slice M N O)/\V.cell? ⟨A,3,none⟩=some (.int .i64 1)) V):=λV h=>dg (cK HX.out h)
 have aB:=ay.out
 go_region_held3 (λV:World=>V.cell? ⟨A,0,none⟩=some (.slice F G H)/\V.cell? ⟨A,1,none⟩=some (.slice I J K)/\V.cell? ⟨A,2,none⟩=some (.slice M N O)/\V.cell? ⟨A,3,none⟩=some (.int .i64 1)) (first | (refine ao.out _ ?_;(repeat (first | with_reducible assumption | exact MJ _ _ | refine cX ?_ | refine Nr ?_ (by first | exact MI _ | assumption) _));done) | (refine LD ?_ (by omega);refine ao.out _ ?_;(repeat (first | with_reducible assumption | exact MJ _ _ | refine cX ?_ | refine Nr ?_ (by first | exact MI _ | assumption) _));done)) (first
  | (go_at_call 15;refine (ag.out _).mono ?_;rintro e P ⟨rfl,Y⟩;have c:Bw W P:=(by first | exact dH Y | exact ((cX (MJ _ _)).alloc (MI _) _).trans (Y.mono (by simp)) | exact ((qG _ _).trans ((dH Y).mono (by simp))));have aq:=c.size;first | (have ar:P.1[W.1.size]?=some sI:=(by first | exact (Y.block _ (by simp)).trans (MD W.drew _) | exact (Y.block _ (by show _<Array.size _;simp)).trans (MD W _))) | skip)
  | (go_at_call 9;refine (af.out _ _ _ _ _ _ (HM.out.up (by first | exact c | exact c.alloc aq _))).mono ?_;rintro e Z ⟨t,u,v,x,y,z,B,C,D,L5,rfl,E,o⟩;have d:Bw W Z:=(by first | exact c.trans (o.mono c.size) | exact (c.alloc aq _).trans (o.mono (by simp;omega)));have az:=d.size;first | (have l:Z.1[P.1.size]?=some sI:=(by first | exact (o.block _ (by simp)).trans (MD P _));have ad:A≠P.1.size:=(by omega);obtain⟨g0,g1,g2,g3⟩:=dg l;have gg:=dw l) | (have l:=cK ar o;have ad:A≠W.1.size:=(by omega);obtain⟨g0,g1,g2,g3⟩:=dg l;have gg:=dw l) | (have ad:A≠Z.1.size:=(by omega))))
 ·obtain⟨i,a⟩:=qF (Z.alloc (gB (.slice t u v) (.slice x y z) (.slice B C D) 1));rw[<-a];have ai:Bw Z i:=by rw[a];exact qG _ _
  have hF:i.1[Z.1.size]?=some (gB (.slice t u v) (.slice x y z) (.slice B C D) 1):=by rw[a];exact MD _ _
  have j:Ms (λ_=>True) i (.slice t u v) (.slice x y z) (.slice B C D) L5 Mc.x1:=(E.up ai).imp λ_ _ _=>trivial
  have g:Bw W i:=d.trans (ai.mono az);have k:=cK HX.out g;clear a ai;have Q:Hid _:=j;have HF:Hid _:=hF;have R:Hid _:=k;have T:=qJ HB g;clear j hF k g E d c o;obtain⟨z0,z1,z2,z3⟩:=dg HF.out;go_wp2_with fail;refine (ab.out _ _ _ _ _ _ Q.out).mono ?_;rintro e w6 ⟨rfl,f⟩;obtain⟨y0,y1,y2,y3⟩:=dg (cK HF.out f);obtain⟨x0,x1,x2,x3⟩:=dg (cK R.out f);have U:=qJ T f;have t1:(r.toList==r.toList)=true:=OS _;clear f z0 z1 z2 z3;go_wp2;go_ret;exact⟨rfl,U.out⟩
 ·obtain⟨i,a⟩:=qF (Z.setCells P.1.size 0 (cS (.slice t u v) (.slice x y z) (.slice B C D) 1));have X:=hH<|show (((Z.setCell ⟨P.heap.size,0,none⟩ (.slice t u v)).setCell ⟨P.heap.size,1,none⟩ (.slice x y z)).setCell ⟨P.heap.size,2,none⟩ (.slice B C D)).setCell ⟨P.heap.size,3,none⟩ (.int .i64 1)=i by rw[a];rfl
  rw[X.out];have hF:i.1[P.1.size]?=some (gB (.slice t u v) (.slice x y z) (.slice B C D) 1):=by rw[a];exact dO _ l rfl
  have j:Ms (λ_=>True) i (.slice t u v) (.slice x y z) (.slice B C D) L5 Mc.x1:=by rw[a];exact (E.set (A:=P.1.size) (by rintro (h | h) <;> first | omega | (simp at h;done) | (simp at h;omega)) 0 (cS (.slice t u v) (.slice x y z) (.slice B C D) 1)).imp λ_ _ _=>trivial
  have g:Bw W i:=by rw[a];exact da (by omega) _ _ _ d
  have k:i.1[A]?=some (gB (.slice F G H) (.slice I J K) (.slice M N O) 1):=by rw[a];exact (dq _ _ _ ad).trans (cK HX.out d)
  clear a X;have Q:Hid _:=j;have HF:Hid _:=hF;have R:Hid _:=k;have T:=qJ HB g;clear j hF k g E d c o;obtain⟨z0,z1,z2,z3⟩:=dg HF.out;go_wp2_with fail;refine (ab.out _ _ _ _ _ _ Q.out).mono ?_;rintro e w6 ⟨rfl,f⟩;obtain⟨y0,y1,y2,y3⟩:=dg (cK HF.out f);obtain⟨x0,x1,x2,x3⟩:=dg (cK R.out f);have U:=qJ T f;have t1:(r.toList==r.toList)=true:=OS _;clear f z0 z1 z2 z3;go_wp2;go_ret;exact⟨rfl,U.out⟩
 ·obtain⟨i,a⟩:=qF (Z.setCells W.1.size 0 (cS (.slice t u v) (.slice x y z) (.slice B C D) 1));have X:=hH<|show (((Z.setCell ⟨W.heap.size,0,none⟩ (.slice t u v)).setCell ⟨W.heap.size,1,none⟩ (.slice x y z)).setCell ⟨W.heap.size,2,none⟩ (.slice B C D)).setCell ⟨W.heap.size,3,none⟩ (.int .i64 1)=i by rw[a];rfl
  rw[X.out];have hF:i.1[W.1.size]?=some (gB (.slice t u v) (.slice x y z) (.slice B C D) 1):=by rw[a];exact dO _ l rfl
  have j:Ms (λ_=>True) i (.slice t u v) (.slice x y z) (.slice B C D) L5 Mc.x1:=by rw[a];exact (E.set (A:=W.1.size) (by have h4:=(qL ar);rintro (h | h) <;> omega) 0 (cS (.slice t u v) (.slice x y z) (.slice B C D) 1)).imp λ_ _ _=>trivial
  have g:Bw W i:=by rw[a];exact da (by omega) _ _ _ d
  have k:i.1[A]?=some (gB (.slice F G H) (.slice I J K) (.slice M N O) 1):=by rw[a];exact (dq _ _ _ ad).trans (cK HX.out d)
  clear a X;have Q:Hid _:=j;have HF:Hid _:=hF;have R:Hid _:=k;have T:=qJ HB g;clear j hF k g E d c o;obtain⟨z0,z1,z2,z3⟩:=dg HF.out;go_wp2_with fail;refine (ab.out _ _ _ _ _ _ Q.out).mono ?_;rintro e w6 ⟨rfl,f⟩;obtain⟨y0,y1,y2,y3⟩:=dg (cK HF.out f);obtain⟨x0,x1,x2,x3⟩:=dg (cK R.out f);have U:=qJ T f;have t1:(r.toList==r.toList)=true:=OS _;clear f z0 z1 z2 z3;go_wp2;go_ret;exact⟨rfl,U.out⟩
def Mc.Cg (q:Int) (n:Nat):Prop:=(-9223372036854775808<=q/\q<=9223372036854775807)/\∃ z:Int,q=(n:Int)+z*18446744073709551616
theorem Mc.Cg.add {q:Int}{n:Nat}(h:Mc.Cg q n)(m:Nat):Mc.Cg (wrap64 (q+(m:Int))) (n+m):=by
 obtain⟨a,z,b⟩:=h;unfold wrap64;exact⟨qo,z-(q+(m:Int)+9223372036854775808) / 18446744073709551616,by omega⟩
theorem Mc.Cg.small {q:Int}{n:Nat}(h:Mc.Cg q n)(hn:n<=4611686018427387904):q=(n:Int):=by
 obtain⟨⟨a,b⟩,z,c⟩:=h;omega
def Mc.lk (l:List Mc.q9):Nat:=(l.map λy=>y.2.2.2.size).sum
theorem Mc.Gj {l:List Mc.q9}{k:Nat}{x:Mc.q9}(h:l[k]?=some x):Mc.lk (l.take (k+1))=Mc.lk (l.take k)+x.2.2.2.size:=by
 obtain⟨a,rfl⟩:=MN.1 h;unfold Mc.lk;rw[Np a,NO,List.sum_append];simp
theorem Mc.tK {l:List Mc.q9}{x:Mc.q9}(h:x∈l):x.2.2.2.size<=Mc.lk l:=by
 induction l with
 | nil=>cases h
 | cons y l ih =>
  show _<=y.2.2.2.size+Mc.lk l;rcases Ni.1 h with rfl | h
  ·omega
  ·have:=ih h;omega
theorem Mc.vx {l:List Mc.q9}{m:Nat}(h:∀ x∈l,x.2.2.2.size<=m):Mc.lk l<=l.length*m:=by
 induction l with
 | nil=>exact MV _
 | cons y l ih =>
  show y.2.2.2.size+Mc.lk l<=(l.length+1)*m;have b:=h y List.mem_cons_self;have c:=ih λx a=>h x (N2 _ a)
  rw[Nat.succ_mul];omega
def Mc.Small (l:List Mc.q9):Prop:=l.length<=100/\∀ y∈l,y.2.2.2.size<=1048576
theorem oL {S:Nat->Prop}(lv)(l:List Mc.q9)(w:World)(h:At tR S w lv l)(hb:∀ y∈l,y.2.2.2.size<=140737488355328) :
  Calls Tryz.prog 6 #[lv] w λe w'=>(∃ b:Bool,e=.returned (.bool b)/\(b=false->Mc.Small l))/\Bw w w':=by
 obtain⟨P,H,rfl,D,-⟩:=h.open;have E:Hid (l.length<=100->Mc.lk l<=4611686018427387904):=λm=>by
  have s:=Mc.vx hb;have t:l.length*140737488355328<=100*140737488355328:=Og _ m;omega
 unfold maxLen at D;have F:Hid _:=h;obtain⟨n,A⟩:=qE l.length;have o:Hid _:=A;have u:Hid (Mc.Cg 0 (Mc.lk (l.take 0))):=⟨qo,0,by simp[Mc.lk]⟩;rw[A]at D |-;clear h A hb;go_enter Tryz.func6,Tryz.ntmps6;go_wp2_with fail;go_loopw [3,8] (λg i M=>∃ (k:Nat) (q:Int),k<=n/\i=.int .i64 k/\g=.int .i64 q/\Hid (Mc.Cg q (Mc.lk (l.take k)))/\Hid (Bw w M)) (λ_ i _=>n-(intOf i).toNat)
 case atStart=>exact⟨0,_,MV _,rfl,rfl,u,MJ _ _⟩
 case round =>
  obtain⟨k,q,Q,rfl,rfl,B,c⟩:=hrel;have v:=c.out.size
  by_cases hlt:k<n
  ·obtain⟨x,d⟩:∃ x,l[k]?=some x:=⟨_,MF (by rw[o.out];exact hlt)⟩;obtain⟨b,a,rfl,r,I,J,K,L⟩:=pG F d;rw[<-c.out.cell (p:=⟨b,a+k*4,none⟩) r]at I;rw[<-c.out.cell (p:=⟨b,a+k*4+1,none⟩) r]at J;rw[<-c.out.cell (p:=⟨b,a+k*4+2,none⟩) r]at K;rw[<-c.out.cell (p:=⟨b,a+k*4+3,none⟩) r]at L;have z:=hH<|show Mc.Cg (wrap64 (q+(x.2.2.2.size:Int))) (Mc.lk (l.take (k+1))) by
    rw[Mc.Gj d];exact B.add _
   have C:(k:Int)<(n:Int):=qo
   clear d B;go_wp2
   go_roundw
   case rel=>exact⟨k+1,_,qo,by go_num,rfl,z,c.alloc v _⟩
   case measure=>simp[intOf];omega
  ·obtain rfl:k=n:=by omega
   have f:Hid (k<=100->q<=100000->Mc.Small l):=λh m=>by
    have e:l.take k=l:=MY (by rw[<-o.out];exact MI _);have s:=B.out;rw[e]at s;have t:l.length<=100:=by rw[o.out];exact h
    have O:=s.small (E t);refine⟨t,λy N=>?_⟩;have:=Mc.tK N;omega
   have G:=o.out
   by_cases m:100000<q
   ·have j:decide (100000<q)=true:=by simpa using m
    go_wp2
    all_goals
     go_ret;exact⟨by first | exact .inr rfl | exact⟨_,rfl,λh=>by simp at h⟩,c⟩
   ·have j:decide (100000<q)=false:=by simpa using m
    by_cases h100:(100:Int)<(k:Int)
    all_goals
     go_wp2
     all_goals
      go_ret;exact⟨by first | exact .inr rfl | exact .inl ⟨rfl,f qo qo⟩ | exact⟨_,rfl,λ_=>f.out qo qo⟩ | exact⟨_,rfl,λh=>by simp at h⟩,c⟩
theorem tw {S T:Nat->Prop}{vi vo vz ui uo uz:Value}{L M:List Rw}{x:Sh.iF}{w:World}(h:Ms S w vi vo vz L x)(g:Ms T w ui uo uz M x) :
  Calls Tryz.prog 11 #[iB vi vo vz x.dn,iB ui uo uz x.dn] w λe w'=>e=.returned (.bool true)/\Bw w w' :=
 B6 vi vo vz ui uo uz x.dn L M x.O x.Z w h.tab g.tab (h.eq.trans g.eq.symm) h.ops g.ops h.jB g.jB
end Go.Proofs.YtiifhfmekbhlnaaGreat
