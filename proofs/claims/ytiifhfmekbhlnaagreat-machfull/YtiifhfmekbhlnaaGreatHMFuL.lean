/-
  The statement MachFull: for every input the call answers true, and the input reads as it did.
-/
import Derived.ChangeMaps5
import Derived.Test.YtiifhfmekbhlnaaGreatRows
import Derived.Test.YtiifhfmekbhlnaaGreatH26
set_option maxHeartbeats 8000000
set_option maxRecDepth 100000
set_option linter.unusedSimpArgs false
namespace Go.Proofs.YtiifhfmekbhlnaaGreat
open It RowKit
namespace Mc
open Sh
theorem JI {x:iF}{cl rq:Int}(h:eP x cl rq=0)(h6:6<=x.Z.length)(hc:∀ z∈x.Z,z.1≠cl)(b):j8 x cl rq b=x/\kI x cl rq b=⟨#[1,0,2,1,156]⟩:=by
 have a:=(ru.1 (jF h).1).2.1;have i:=Es.Se.kl a;have c:Es.Se.gu x.Z cl=none:=by
  cases hq:Es.Se.gu x.Z cl with
  | none=>rfl
  | some z=>obtain⟨f,g⟩:=Es.Se.jf hq;exact absurd g (hc z f)
 have d:=(Es.Se.kO (uI h) c).1;rw[MC qo]at d;refine⟨tY h qo b,?_⟩;unfold kI;rw[MC h,ME qo,ME qo,ME qo]
 decide +kernel
end Mc
end Go.Proofs.YtiifhfmekbhlnaaGreat
namespace Go.Proofs.YtiifhfmekbhlnaaGreat
open ChangeShapes WideShapes ChangeAt RowKit Deep It
theorem zv {w:World}{ao:Option Addr}{n cap:Nat}{l:List Es.fB}{S:Nat->Prop}(h:At Es.ES S w (.slice ao n cap) l):(l.length=n/\n<=maxLen)/\∀ k r,l[k]?=some r->∃ b off,ao=some ⟨b,off,none⟩/\b<w.1.size/\w.cell? ⟨b,off+k*3,none⟩=some (.int .i64 r.1)/\w.cell? ⟨b,off+k*3+1,none⟩=some (.int .i64 r.2.1)/\w.cell? ⟨b,off+k*3+2,none⟩=some (.string r.2.2):=by
 obtain⟨f,c,g,i,j⟩:=h.open
 injection g with m d s
 subst m;refine⟨⟨d.symm,d ▸ i⟩,λk r q=>?_⟩;obtain⟨b,off,o,-,p,a⟩:=j k r q;exact⟨b,off,o,p,a 0 _ rfl,a 1 _ rfl,a 2 _ rfl⟩
theorem Mc.Jk {l:List Mc.q9}(hl:l.length<=100):(Mc.gO Mc.x0 l=0->Mc.wh (Mc.gT Mc.x0 l)=true/\(Mc.gT Mc.x0 l).dn<=100)/\(Mc.gO Mc.x0 l≠0->Mc.gT Mc.x0 l=Sh.EN):=by
 unfold Mc.gT;refine⟨λh=>?_,λh=>by rw[ME h]⟩;rw[MC h];obtain⟨a,-,b⟩:=Mc.rQ Mc.C9 h;refine⟨a,?_⟩;have:Mc.x0.dn=0:=rfl;omega
theorem DJ (lv:Value) (l:List Mc.q9) (v cl rq:Int) (b:ByteArray) (w:World) (h:ey tR w lv l) (hs:∀ y∈l,y.2.2.2.size<=140737488355328) :
  Calls Tryz.prog 5 #[lv,DH v cl rq b] w λe w'=>e = .returned (.bool true)/\Below w.heap.size w w':=by
 obtain ⟨ao,cap,hlv,-,-⟩:=h.open
 subst hlv
 obtain ⟨N,hN⟩:∃ n,l.length = n:=⟨_,rfl⟩
 rw [hN] at h |-
 have HTW:Hid (∀ V:World,Below w.heap.size w V->Calls Tryz.prog 7 #[] V λe w'=>e = .returned (.bool true)/\Below w.heap.size w w'):=λV hV=>(rz V).mono λ_ _ ⟨h1,h2⟩=>⟨h1,hV.trans (h2.mono hV.size)⟩
 obtain ⟨W,hW⟩:∃ V,V = w.alloc (yP v cl rq b):=⟨_,rfl⟩
 have HB:Hid (Below w.1.size w W):=by show Below _ _ _;rw [hW];exact (MJ _ w).alloc (MI _) _
 have HX:Hid (W.1[w.1.size]?=some (yP v cl rq b)):=by show _=_;rw [hW];exact MD _ _
 have HL:Hid _:=h
 have HLW:Hid (∀ V:World,Below w.heap.size w V->Calls Tryz.prog 6 #[.slice ao N cap] V λe w'=>(∃ b:Bool,e = .returned (.bool b)/\(b = false->Mc.Small l))/\Below V.heap.size V w'):=λV hV=>oL _ l V (h.up hV) hs
 have HRW:Hid (∀ (S:Nat->Prop) (vi vo vz:Value) (L:List Rw) (V:World),Mc.Small l->Below w.heap.size w V->Ms S V vi vo vz L Mc.x0->Calls Tryz.prog 12 #[iB vi vo vz 0,.slice ao N cap] V λe w'=>∃ ua un uc pa pn pc qa qn qc ra rn rc L',e = .returned (.tuple #[iB (.slice ua un uc) (.slice pa pn pc) (.slice qa qn qc) (Mc.gT Mc.x0 l).dn,.slice ra rn rc,.int .i64 (Mc.gO Mc.x0 l)])/\Ms (λb=>S b\/V.heap.size<=b) w' (.slice ua un uc) (.slice pa pn pc) (.slice qa qn qc) L' (Mc.gT Mc.x0 l)/\At oW (λb=>V.heap.size<=b) w' (.slice ra rn rc) (Mc.ky Mc.x0 l)/\Below V.heap.size V w'):=λS vi vo vz L V hS hV hm=>by
  have:=Ai vi vo vz L Mc.x0 (.slice ao N cap) l V hm (h.up hV) (by have:=hS.1;omega) hS.2
  exact this
 have HP:Hid (Mc.Small l->(Mc.gO Mc.x0 l = 0->Mc.wh (Mc.gT Mc.x0 l) = true/\(Mc.gT Mc.x0 l).dn<=100)/\(Mc.gO Mc.x0 l≠0->Mc.gT Mc.x0 l = Sh.EN)):=λh=>Mc.Jk h.1
 generalize Mc.gT Mc.x0 l = X at HRW HP
 generalize Mc.gO Mc.x0 l = E at HRW HP
 clear h hs hN
 go_enter Tryz.func5,Tryz.ntmps5
 go_wp2_with fail
 rw [<-hW]
 clear hW
 refine (HLW.out W HB.out).mono ?_
 rintro e w1 ⟨⟨bb,rfl,hsm⟩,hb1⟩
 have HX1:Hid _:=cK HX.out hb1
 have HB1:=qJ HB hb1
 obtain ⟨y0,y1,y2,y3⟩:=iR HX1.out
 clear hb1 HX HB HLW
 cases bb with
 | true =>
  go_wp2_with fail
  refine (HTW.out _ HB1.out).mono ?_
  rintro e w2 ⟨rfl,hb2⟩
  go_wp2
  go_ret
  exact ⟨rfl,hb2⟩
 | false =>
  have HSM:Hid _:=hsm rfl
  clear hsm
  by_cases g1:(20000:Int) < (b.size:Int)
  ·go_wp2_with fail
   refine (HTW.out _ HB1.out).mono ?_
   rintro e w2 ⟨rfl,hb2⟩
   go_wp2
   go_ret
   exact ⟨rfl,hb2⟩
  by_cases g2:cl < 0
  ·go_wp2_with fail
   refine (HTW.out _ HB1.out).mono ?_
   rintro e w2 ⟨rfl,hb2⟩
   go_wp2
   go_ret
   exact ⟨rfl,hb2⟩
  by_cases g3:(1099511627776:Int) < cl
  ·go_wp2_with fail
   refine (HTW.out _ HB1.out).mono ?_
   rintro e w2 ⟨rfl,hb2⟩
   go_wp2
   go_ret
   exact ⟨rfl,hb2⟩
  by_cases g4:rq < 1
  ·go_wp2_with fail
   refine (HTW.out _ HB1.out).mono ?_
   rintro e w2 ⟨rfl,hb2⟩
   go_wp2
   go_ret
   exact ⟨rfl,hb2⟩
  by_cases g5:(1099511627776:Int) < rq
  ·go_wp2_with fail
   refine (HTW.out _ HB1.out).mono ?_
   rintro e w2 ⟨rfl,hb2⟩
   go_wp2
   go_ret
   exact ⟨rfl,hb2⟩
  go_wp2_with fail
  have HG:Hid (b.size<=1048576/\(0<=cl/\cl<=1099511627776)/\(1<=rq/\rq<=1099511627776)):=⟨by omega,⟨by omega,by omega⟩,by omega,by omega⟩
  clear g1 g2 g3 g4 g5 y0 y1 y2 y3
  refine (qu w1).mono ?_
  rintro e w2 ⟨ap,n,cp,L,rfl,hm2,hb2⟩
  have HM2:Hid _:=hm2
  have HX2:Hid _:=cK HX1.out hb2
  have HB2:=qJ HB1 hb2
  clear hm2 hb2 HX1 HB1
  go_wp2_with fail
  refine (HRW.out _ _ _ _ _ w2 HSM.out HB2.out HM2.out).mono ?_
  rintro e w3 ⟨ua,un,uc,pa,pn,pc,qa,qn,qc,ra,rn,rc,L3,rfl,hm3,-,hb3⟩
  obtain ⟨V,hV⟩:∃ V,V = w3.alloc (gB (.slice ua un uc) (.slice pa pn pc) (.slice qa qn qc) X.dn):=⟨_,rfl⟩
  obtain ⟨A,hA⟩:∃ n,n = w3.heap.size:=⟨_,rfl⟩
  have hbV:Below w3.heap.size w3 V:=by rw [hV];exact (MJ _ _).alloc (MI _) _
  have HM:Hid _:=(hm3.up hbV).imp λ_ _ _=>trivial
  have HX3:Hid _:=cK (cK HX2.out hb3) hbV
  have HS3:Hid (V.1[A]?=some (gB (.slice ua un uc) (.slice pa pn pc) (.slice qa qn qc) X.dn)):=by show _=_;rw [hV,hA];exact MD _ _
  have HB3:Hid _:=(HB2.out.trans (hb3.mono HB2.out.size)).trans (hbV.mono (MS HB2.out.size hb3.size))
  have HPP:Hid _:=HP.out HSM.out
  have HZ:Hid _:=zv HM.out.jB
  obtain ⟨D,hD⟩:∃ D,X.dn = D:=⟨_,rfl⟩
  have HD:Hid _:=hD
  rw [hD] at HS3 hV
  rw [hD]
  clear hm3 hb3 hbV HM2 HX2 HB2 HRW HP HSM hD
  obtain ⟨y0,y1,y2,y3⟩:=iR HX3.out
  obtain ⟨x0,x1,x2,x3⟩:=dg HS3.out
  by_cases h0:E = 0
  ·subst h0
   by_cases h6:(qn:Int) < 6
   ·go_wp2_with fail
    rw [<-hV]
    refine (HTW.out _ HB3.out).mono ?_
    rintro e w4 ⟨rfl,hb4⟩
    go_wp2
    go_ret
    exact ⟨rfl,hb4⟩
   ·go_wp2_with fail
    rw [<-hV,<-hA]
    clear hV hA
    have hqm:=HZ.out.1.2
    unfold maxLen at hqm
    have hal:A<V.1.size:=(qL HS3.out)
    go_loopw [67] (λi wr=>∃ (k:Nat),k<=qn/\i = .int .i64 k/\Hid (∀ z∈X.Z.take k,z.1≠cl)/\Hid (Below V.heap.size V wr)) (λi _=>qn - (intOf i).toNat)
    case atStart=>exact ⟨0,MV _,rfl,λz hz=>by simp at hz,MJ _ _⟩
    case round =>
     obtain ⟨k,hk,rfl,HN,HBR⟩:=hrel
     have hsz:=HBR.out.size
     clear x0 x1 x2 x3 y0 y1 y2 y3
     obtain ⟨y0,y1,y2,y3⟩:=iR (cK HX3.out HBR.out)
     obtain ⟨x0,x1,x2,x3⟩:=dg (cK HS3.out HBR.out)
     by_cases hlt:k < qn
     ·obtain ⟨z,hzk⟩:∃ z,X.Z[k]? = some z:=⟨_,MF (by rw [HZ.out.1.1];exact hlt)⟩
      obtain ⟨bb,off,rfl,hB,c0,c1,c2⟩:=HZ.out.2 k z hzk
      rw [<-HBR.out.cell (p:=⟨bb,off + k * 3,none⟩) hB] at c0
      rw [<-HBR.out.cell (p:=⟨bb,off + k * 3 + 1,none⟩) hB] at c1
      rw [<-HBR.out.cell (p:=⟨bb,off + k * 3 + 2,none⟩) hB] at c2
      have hlt':(k:Int) < (qn:Int):=by omega
      have HNX:Hid (z.1≠cl->∀ y∈X.Z.take (k + 1),y.1≠cl):=λhne y hy=>by
       obtain ⟨hl,rfl⟩:=MN.1 hzk
       rw [Np hl] at hy
       rcases Na.1 hy with hy | hy
       ·exact HN.out y hy
       ·rw [NG.1 hy];exact hne
      obtain ⟨U,hU⟩:∃ V,V = wr.alloc (.cells #[.int .i64 z.1,.int .i64 z.2.1,.string z.2.2] 47):=⟨_,rfl⟩
      have hbU:Below V.heap.size V U:=by rw [hU];exact HBR.out.alloc hsz _
      have HBU:Hid _:=hbU
      have HBT:=qJ HB3 hbU
      have zz:U.heap[wr.heap.size]? = some (.cells #[.int .i64 z.1,.int .i64 z.2.1,.string z.2.2] 47):=by rw [hU];exact MD _ _
      have z0:U.cell? ⟨wr.heap.size,0,none⟩ = some (.int .i64 z.1):=by simp [World.cell?,zz]
      clear x0 x1 x2 x3 y0 y1 y2 y3 hzk
      obtain ⟨y0,y1,y2,y3⟩:=iR (cK HX3.out hbU)
      rw [hU] at z0 y0 y1 y2 y3
      clear hbU zz
      by_cases hc:z.1 = cl
      ·have hcc:(z.1 == cl) = true:=by simp [hc]
       clear hc
       go_wp2_with fail
       rw [<-hU]
       refine (HTW.out _ HBT.out).mono ?_
       rintro e w4 ⟨rfl,hb4⟩
       go_wp2
       go_ret
       exact ⟨rfl,hb4⟩
      ·have hcc:(z.1 == cl) = false:=by simp [hc]
       have HC:Hid _:=hc
       clear hc
       go_wp2
       rw [<-hU]
       go_roundw
       case rel=>exact ⟨k + 1,by omega,by go_num,HNX.out HC.out,HBU.out⟩
       case measure=>simp [intOf];omega
     ·obtain rfl:k = qn:=by omega
      have HNN:Hid (∀ z∈X.Z,z.1≠cl):=by
       have:=HN.out
       rw [MY (by rw [HZ.out.1.1];exact MI _)] at this
       exact this
      have HRF:Hid _:=Mc.pW (HPP.out.1 trivial).1 HG.out.2.1 HG.out.2.2 (by have:=(HPP.out.1 trivial).2;omega)
      have HDF:Hid _:=Mc.JI HRF.out (by have:=HZ.out.1.1;omega) HNN.out b
      have HDC:Hid (∀ V',Below V.heap.size V V'->Calls Tryz.prog 9 #[iB (.slice ua un uc) (.slice pa pn pc) (.slice qa k qc) D,DH v cl rq b] V' λe w'=>∃ ua' un' uc' pa' pn' pc' qa' qn' qc' L',e = .returned (.tuple #[iB (.slice ua' un' uc') (.slice pa' pn' pc') (.slice qa' qn' qc') D,.string ⟨#[1,0,2,1,156]⟩,.int .i64 0])/\Ms (λ_=>True) w' (.slice ua' un' uc') (.slice pa' pn' pc') (.slice qa' qn' qc') L' X/\Below V'.heap.size V' w'):=λV' hV'=>by
       have:=oA _ _ _ L3 X v cl rq b V' (HM.out.up hV') HG.out.1
       rw [HDF.out.1,HDF.out.2,HRF.out,HD.out] at this
       exact this.mono λ_ _ ⟨a1,a2,a3,a4,a5,a6,a7,a8,a9,L',h1,h2,h3⟩=>⟨a1,a2,a3,a4,a5,a6,a7,a8,a9,L',h1,h2.imp λ_ _ _=>trivial,h3⟩
      go_wp2_with fail
      refine (HDC.out _ HBR.out).mono ?_
      rintro e w4 ⟨e1,m1,f1,e2,m2,f2,e3,m3,f3,L4,rfl,hm4,hb4⟩
      have HM4:Hid _:=hm4
      have HB4:=qJ HBR hb4
      clear hm4 hb4 x0 x1 x2 x3 y0 y1 y2 y3
      obtain ⟨U,hU⟩:∃ V,V = w4.alloc (gB (.slice e1 m1 f1) (.slice e2 m2 f2) (.slice e3 m3 f3) D):=⟨_,rfl⟩
      have hbU:Below w4.heap.size w4 U:=by rw [hU];exact (MJ _ _).alloc (MI _) _
      have HU:Hid (U.1[w4.1.size]?=some (gB (.slice e1 m1 f1) (.slice e2 m2 f2) (.slice e3 m3 f3) D)):=by show _=_;rw [hU];exact MD _ _
      have HBU:=qJ HB4 hbU
      have HMU:Hid _:=HM4.out.up hbU
      have HSC:Hid (Calls Tryz.prog 11 #[iB (.slice e1 m1 f1) (.slice e2 m2 f2) (.slice e3 m3 f3) D,iB (.slice ua un uc) (.slice pa pn pc) (.slice qa k qc) D] U λe w'=>e = .returned (.bool true)/\Below U.heap.size U w'):=by
       have:=tw HMU.out (HM.out.up HBU.out)
       rw [HD.out] at this
       exact this
      obtain ⟨x0,x1,x2,x3⟩:=dg HU.out
      obtain ⟨y0,y1,y2,y3⟩:=dg (cK HS3.out HBU.out)
      rw [hU] at x0 x1 x2 x3 y0 y1 y2 y3
      clear hbU HDC
      go_wp2_with fail
      rw [<-hU]
      clear hU
      refine HSC.out.mono ?_
      rintro e w5 ⟨rfl,hb5⟩
      have HB5:Hid _:=HB3.out.trans ((HBU.out.trans (hb5.mono HBU.out.size)).mono HB3.out.size)
      clear hb5
      go_wp2_with fail
      refine (HTW.out _ HB5.out).mono ?_
      rintro e w6 ⟨rfl,hb6⟩
      go_wp2
      go_ret
      exact ⟨rfl,hb6⟩
  ·have hq:qn = 0:=by
    have h1:=HZ.out.1.1
    rw [HPP.out.2 h0] at h1
    exact h1.symm
   subst hq
   have t0:(E != 0) = true:=by simp [h0]
   go_wp2_with fail
   rw [<-hV]
   refine (HTW.out _ HB3.out).mono ?_
   rintro e w4 ⟨rfl,hb4⟩
   go_wp2
   go_ret
   exact ⟨rfl,hb4⟩
end Go.Proofs.YtiifhfmekbhlnaaGreat
namespace Go.Proofs.YtiifhfmekbhlnaaGreat
open ChangeShapes WideShapes ChangeAt RowKit Deep It
theorem Dl {H:Type}{enc:TypeId × Value->H}{w:World}{r:Reach}{b0:Nat}{v:Value}{d:DataW H}{p:List MemPlace}(hv:Value.okWide Tryz.prog w r b0 32 v)(h:DataW.Trod enc Tryz.prog w 0 (λ_=>true) true 32 v d p):∃ v0 cl rq b,v=DH v0 cl rq b:=by
 obtain⟨c,rfl,a⟩:=okWide_struct Tryz.underlying32 hv;obtain⟨f,i⟩:=h;have g:c.toList.length=4:=by rw[On,a];kernel_rfl
 obtain⟨x,j,-⟩:=AA g (by simpa [Value.cells]using i);refine⟨x.1,x.2.1,x.2.2.1,x.2.2.2,?_⟩;have:c=#[.int .i64 x.1,.int .i64 x.2.1,.int .i64 x.2.2.1,.string x.2.2.2]:=by
  apply Array.toList_inj.1
  rw[j];rfl
 rw[this]
end Go.Proofs.YtiifhfmekbhlnaaGreat
namespace Go.Proofs.YtiifhfmekbhlnaaGreat
open ChangeShapes WideShapes ChangeAt RowKit Deep It
theorem sY (os : Os) (started : os.Started) (H : Type) (enc : TypeId × Value → H) :
    ReturnsInHanded {} Tryz.checked os 5 .any (Rows.machFullSpec.pre6 enc Tryz.prog Tryz.f5 Rows.machFullRow.domain false) (Rows.machFullSpec.post enc Tryz.prog Tryz.f5 false true false false) := by
  refine returnsInHanded_of_change_sized (C := Tryz.checked) own started (by kernel_rfl) Tryz.func5
    (ChangeSpec.witness6 (enc := enc) (C := Tryz.checked) false ⟨#[], #[.slice none 0 0, .agg #[.int .i64 0, .int .i64 0, .int .i64 0, .string ⟨#[]⟩]], []⟩ 8 (by kernel_rfl) (by kernel_rfl) (by kernel_rfl) (by kernel_rfl)) ?_
  intro W base args ds gs before hval0 hW hcnd hsized _
  have hval : ∀ (j : Nat) t v, Tryz.f5.params[j]? = some t → args[j]? = some v → Value.okWide Tryz.prog W .any base t v := hval0
  have hW' := hW
  obtain ⟨p, q, hA0, hV, rfl, hfz, hnd⟩ := hW
  have hA : DataW.TrodAll enc Tryz.prog W 0 (λ_ => true) true Tryz.f5.params.toList args.toList ds p := hA0
  rw [Tryz.params5] at hA hval
  obtain ⟨v0, v1, d0, d1, p0, p1, rfl, rfl, rfl, h0, h1⟩ := trodAll_two hA
  obtain ⟨rfl, rfl⟩ := trodVars_none hV
  have hwt0 : ∀ n ∈ d0.weights Tryz.prog 22, n ≤ reachBytes := λn hn => by
    have := Ok.1 hsized n (DataW.weights_mem_each (j := 0) (t := 22) (d := d0) rfl rfl n hn)
    simpa using this
  obtain ⟨l0, hl0, hs0⟩ := mI (okWide_slice Tryz.underlying22 (hval 0 22 v0 rfl rfl)) h0 hwt0
  obtain ⟨x0, cl, rq, b, rfl⟩ := Dl (hval 1 32 v1 rfl rfl) h1
  refine (DJ v0 l0 x0 cl rq b W hl0 hs0).mono λe W' ⟨he, hg⟩ => ⟨_, he, ?_⟩
  exact Law.post laidOut (by kernel_rfl) rfl Tryz.underlying4 hW' rfl rfl hg
theorem machFull_holds : Rows.MachFullSaid :=
  OpenClaim.holds_of_wide 5 Tryz.f5 rfl rfl rfl rfl rfl rfl rfl ⟨rfl, rfl, rfl, rfl, rfl⟩ rfl rfl rfl rfl rfl (by kernel_rfl) Tryz.func5 (by kernel_rfl)
    (of_decide_eq_true (by kernel_rfl)) (by unfold Func.isWrapper; first | (rw [MC (by decide +kernel)]; kernel_rfl) | (rw [ME (by decide +kernel)]; exact ⟨rfl, rfl⟩))
    (λos started H enc _ => sY os started H enc)
#print axioms machFull_holds
end Go.Proofs.YtiifhfmekbhlnaaGreat
