/-
  The statement MachParts: for every input the call answers true, and the input reads as it did.
-/
import Derived.ChangeMaps5
import Derived.Test.YtiifhfmekbhlnaaGreatRows
import Derived.Test.YtiifhfmekbhlnaaGreatH26
set_option maxHeartbeats 8000000
set_option maxRecDepth 100000
set_option linter.unusedSimpArgs false
namespace Go.Proofs.YtiifhfmekbhlnaaGreat
open ChangeShapes WideShapes ChangeAt RowKit Deep It
theorem uY {S T:Nat->Prop}(u v)(l)(w)(hu:At oW S w u l)(hv:At oW T w v l) :
  Calls Tryz.prog 13 #[u,v] w λe w'=>e=.returned (.bool true)/\Bw w w':=by
 obtain⟨I,J,rfl,z,A⟩:=hu.open;obtain⟨K,B,rfl,_,C⟩:=hv.open;clear hu hv;unfold maxLen at z;obtain⟨n,h⟩:=qE l.length;rw[h]at z |-;have E:Hid _:=h;have F:Hid (∀ i x,l[i]?=some x->∃ b a,I=some ⟨b,a,none⟩/\b<w.1.size/\w.cell? ⟨b,a+i,none⟩=some (.string x)):=λi x r=>by
  obtain⟨b,a,j,-,m,o⟩:=A i x r;have:=o 0 _ rfl;exact⟨b,a,j,m,by simpa [oW]using this⟩
 have G:Hid (∀ i x,l[i]?=some x->∃ b a,K=some ⟨b,a,none⟩/\b<w.1.size/\w.cell? ⟨b,a+i,none⟩=some (.string x)):=λi x r=>by
  obtain⟨b,a,j,-,m,o⟩:=C i x r;have:=o 0 _ rfl;exact⟨b,a,j,m,by simpa [oW]using this⟩
 clear h A C;go_enter Tryz.func13,Tryz.ntmps13;go_wp2;go_loopw [8] (λi N=>∃ k:Nat,k<=n/\i=.int .i64 k/\Bw w N) (λi _=>n-(intOf i).toNat)
 case atStart=>exact⟨0,MV _,rfl,MJ _ _⟩
 case round =>
  obtain⟨k,Q,rfl,c⟩:=hrel
  by_cases hlt:k<n
  ·obtain⟨y,d⟩:∃ y,l[k]?=some y:=⟨_,MF (by rw[E.out];exact hlt)⟩;obtain⟨b,a,rfl,L,D⟩:=F.out k y d;obtain⟨M,f,rfl,q,g⟩:=G.out k y d;have O:=(c.cell (p:=⟨b,a+k,none⟩) L).trans D;have P:=(c.cell (p:=⟨M,f+k,none⟩) q).trans g;have s:(k:Int)<(n:Int):=qo
   have H:decide ((n:Int)<=(k:Int))=false:=qt
   have t:decide (n<=k)=false:=qt
   clear d D g;go_wp2
   go_quiet (fail)
   go_wp2
   go_roundw
   case rel=>exact⟨k+1,qo,by go_num,Ol c _⟩
   case measure=>simp[intOf];omega
  ·obtain rfl:k=n:=qo
   go_wp2;go_ret;exact⟨qs,c⟩
theorem Io:(Tryz.prog.info? 32).map (λi=>(i.zero,i.size,i.bytes))=some (some (.agg #[.int .i64 0,.int .i64 0,.int .i64 0,.string ⟨#[]⟩]),4,40):=qk
theorem Js {S:Nat->Prop}{w:World}{ao:Option Addr}{m cap:Nat}{l:List ByteArray}(h:At oW S w (.slice ao m cap) l){lo hi:Nat}(h1:lo<=hi)(h2:hi<=m):At oW S w (sliced ao lo hi cap oW.sz) ((l.take hi).drop lo):=h.Ju h1 h2
theorem At.tk {α:Type}{E:fY α}{S:Nat->Prop}{w:World}{ao:Option Addr}{m cap:Nat}{l:List α}(h:At E S w (.slice ao m cap) l){k:Nat}(hk:k<=m):At E S w (.slice ao k cap) (l.take k):=by
 by_cases h0:k=0
 ·subst h0;exact .inl ⟨_,_,rfl,rfl⟩
 ·rcases h with⟨ao,c,a,rfl⟩ | ⟨b,d,q,a,i,n,r,s,o,p⟩
  ·simp only[Value.slice.injEq]at a;omega
  ·simp only[Value.slice.injEq]at a;obtain⟨rfl,rfl,rfl⟩:=a;have g:(l.take k).length=k:=by rw[M5];omega
   refine .inr ⟨b,d,cap,by rw[g],i,n,qo,qo,o,λj u f=>p j u ?_⟩;have e:E.flat l=E.flat (l.take k)++E.flat (l.drop k):=by rw[<-E.fo,Nj]
   rw[e,Oq (qM f)];exact f
theorem Mc.parts {a b:List Mc.q9}(h:Mc.gO Mc.x0 a=0):Mc.gO Mc.x0 (a++b)=Mc.gO (Mc.gT Mc.x0 a) b/\Mc.gT Mc.x0 (a++b)=Mc.gT (Mc.gT Mc.x0 a) b /\
  (Mc.gO (Mc.gT Mc.x0 a) b=0->Mc.ky Mc.x0 (a++b)=Mc.ky Mc.x0 a++Mc.ky (Mc.gT Mc.x0 a) b/\Mc.wh (Mc.gT (Mc.gT Mc.x0 a) b)=true) /\
  (Mc.gO (Mc.gT Mc.x0 a) b≠0->Mc.ky (Mc.gT Mc.x0 a) b=[]/\Mc.ky Mc.x0 (a++b)=[]):=by
 have f:Mc.gT Mc.x0 a=Mc.runT Mc.x0 a:=by unfold Mc.gT;rw[MC h]
 have d:Mc.gO Mc.x0 (a++b)=Mc.gO (Mc.runT Mc.x0 a) b:=by rw[Mc.ux,MC h]
 rw[f];refine⟨d,?_,λc=>⟨?_,?_⟩,λc=>⟨?_,?_⟩⟩
 ·unfold Mc.gT;rw[d,Mc.zL]
 ·unfold Mc.ky;rw[d,MC c,MC h,MC c,Mc.zw]
 ·unfold Mc.gT;rw[MC c];exact (Mc.rQ (Mc.rQ Mc.C9 h).1 c).1
 ·unfold Mc.ky;rw[ME c]
 ·unfold Mc.ky;rw[d,ME c]
theorem Ca (va vb:Value) (la lb:List Mc.q9) (w:World) (ha:ey tR w va la) (hsa:∀ y∈la,y.2.2.2.size<=140737488355328) (hb:ey tR w vb lb) (hsb:∀ y∈lb,y.2.2.2.size<=140737488355328) :
  Calls Tryz.prog 4 #[va,vb] w λe w'=>e = .returned (.bool true)/\Below w.heap.size w w':=by
 obtain ⟨pa,ca,hva,-,-⟩:=ha.open
 obtain ⟨pb,cb,hvb,-,-⟩:=hb.open
 obtain ⟨NA,hNA⟩:∃ n,la.length = n:=⟨_,rfl⟩
 obtain ⟨NB,hNB⟩:∃ n,lb.length = n:=⟨_,rfl⟩
 rw [hNA] at hva
 rw [hNB] at hvb
 subst hva hvb
 have HA:Hid (ey tR w (.slice pa NA ca) la):=ha
 have HB:Hid (ey tR w (.slice pb NB cb) lb):=hb
 have HTW:Hid (∀ V:World,Below w.heap.size w V->Calls Tryz.prog 7 #[] V λe w'=>e = .returned (.bool true)/\Below w.heap.size w w'):=λV hV=>(rz V).mono λ_ _ ⟨h1,h2⟩=>⟨h1,hV.trans (h2.mono hV.size)⟩
 have HLA:Hid (∀ V:World,Below w.heap.size w V->Calls Tryz.prog 6 #[.slice pa NA ca] V λe w'=>(∃ b:Bool,e = .returned (.bool b)/\(b = false->Mc.Small la))/\Below V.heap.size V w'):=λV hV=>oL _ la V (ha.up hV) hsa
 have HLB:Hid (∀ V:World,Below w.heap.size w V->Calls Tryz.prog 6 #[.slice pb NB cb] V λe w'=>(∃ b:Bool,e = .returned (.bool b)/\(b = false->Mc.Small lb))/\Below V.heap.size V w'):=λV hV=>oL _ lb V (hb.up hV) hsb
 have HRN:Hid (∀ (S:Nat->Prop) (vi vo vz:Value) (L:List Rw) (X:Sh.iF) (lv:Value) (l:List Mc.q9) (D:Int) (V:World) (T:Nat->Prop),l.length<=1000->(∀ y∈l,y.2.2.2.size<=1048576)->At tR T V lv l->X.dn = D->Ms S V vi vo vz L X->Calls Tryz.prog 12 #[iB vi vo vz D,lv] V λe w'=>∃ ua un uc pa pn pc qa qn qc ra rn rc L',e = .returned (.tuple #[iB (.slice ua un uc) (.slice pa pn pc) (.slice qa qn qc) (Mc.gT X l).dn,.slice ra rn rc,.int .i64 (Mc.gO X l)])/\Ms (λb=>S b\/V.heap.size<=b) w' (.slice ua un uc) (.slice pa pn pc) (.slice qa qn qc) L' (Mc.gT X l)/\At oW (λb=>V.heap.size<=b) w' (.slice ra rn rc) (Mc.ky X l)/\Below V.heap.size V w'):=λS vi vo vz L X lv l D V T h1 h2 h3 h4 h5=>by
  subst h4
  exact Ai vi vo vz L X lv l V h5 h3 h1 h2
 clear ha hb hsa hsb
 go_enter Tryz.func4,Tryz.ntmps4
 go_wp2_with fail
 refine (HLA.out w (MJ _ _)).mono ?_
 rintro e w1 ⟨⟨b1,rfl,hsm⟩,hb1⟩
 have HB1:Hid (Below w.1.size w w1):=hb1
 clear hb1 HLA
 cases b1 with
 | true =>
  go_wp2_with fail
  refine (HTW.out _ HB1.out).mono ?_
  rintro e w2 ⟨rfl,hb2⟩
  go_wp2
  go_ret
  exact ⟨rfl,hb2⟩
 | false =>
 have HSA:Hid (Mc.Small la):=hsm rfl
 clear hsm
 go_wp2_with fail
 refine (HLB.out _ HB1.out).mono ?_
 rintro e w2 ⟨⟨b2,rfl,hsm⟩,hb2⟩
 have HB2:=hH<|HB1.out.trans (hb2.mono HB1.size)
 clear hb2 HLB HB1
 cases b2 with
 | true =>
  go_wp2_with fail
  refine (HTW.out _ HB2.out).mono ?_
  rintro e w3 ⟨rfl,hb3⟩
  go_wp2
  go_ret
  exact ⟨rfl,hb3⟩
 | false =>
 have HSB:Hid (Mc.Small lb):=hsm rfl
 clear hsm
 go_wp2_with fail
 refine (qu w2).mono ?_
 rintro e w3 ⟨ap,n,cp,L,rfl,hm3,hb3⟩
 have HM3:Hid _:=hm3
 have HB3:=hH<|HB2.out.trans (hb3.mono HB2.size)
 clear hm3 hb3 HB2
 go_wp2_with fail
 refine (HRN.out _ _ _ _ _ Mc.x0 _ la 0 w3 (λ_=>True) (by have:=HSA.out.1;omega) HSA.out.2 (HA.out.up HB3.out) rfl HM3.out).mono ?_
 rintro e w4 ⟨ua,un,uc,oa,on,oc,za,zn,zc,ra,rn,rc,L4,rfl,hm4,hr4,hb4⟩
 have HPT:Hid (Mc.gO Mc.x0 la = 0->_):=λh=>Mc.parts (b:=lb) h
 have HST:Hid (Mc.gO Mc.x0 la≠0->Mc.gT Mc.x0 la = Sh.EN):=λh=>by unfold Mc.gT;rw [ME h]
 have HRL:Hid ((Mc.ky Mc.x0 la).length<=100):=by
  have:=HSA.out.1
  show _<=_
  unfold Mc.ky
  split
  ·rw [Mc.uM];exact this
  ·exact MV _
 generalize Mc.gO Mc.x0 la = E at HPT HST |-
 generalize Mc.gT Mc.x0 la = X at HPT HST hm4 |-
 generalize Mc.ky Mc.x0 la = P at HPT HRL hr4
 obtain ⟨D,hD⟩:∃ D,X.dn = D:=⟨_,rfl⟩
 have HD:Hid (X.dn=D):=hD
 rw [hD]
 obtain ⟨V,hV⟩:∃ V,V = w4.alloc (gB (.slice ua un uc) (.slice oa on oc) (.slice za zn zc) D):=⟨_,rfl⟩
 obtain ⟨A,hA⟩:∃ n,n = w4.heap.size:=⟨_,rfl⟩
 have hbV:Below w4.heap.size w4 V:=by rw [hV];exact (MJ _ _).alloc (MI _) _
 have HMS:Hid (Ms (λ_=>True) V (.slice ua un uc) (.slice oa on oc) (.slice za zn zc) L4 X):=(hm4.up hbV).imp λ_ _ _=>trivial
 have HPL:Hid (At oW (λ_=>True) V (.slice ra rn rc) P):=(hr4.up hbV).imp λ_ _ _=>trivial
 have HXA:Hid (V.1[A]?=some (gB (.slice ua un uc) (.slice oa on oc) (.slice za zn zc) D)):=by show _=_;rw [hV,hA];exact MD _ _
 have HBV:Hid (Below w.1.size w V):=(HB3.out.trans (hb4.mono HB3.out.size)).trans (hbV.mono (MS HB3.out.size hb4.size))
 obtain ⟨x0,x1,x2,x3⟩:=dg HXA.out
 rw [hA] at x0 x1 x2 x3
 rw [hV] at x0 x1 x2 x3
 clear hm4 hr4 hb4 hbV HM3 HB3 hD
 by_cases h0:E = 0
 ·subst h0
  have HPP:Hid _:=HPT.out rfl
  clear HPT HST
  go_wp2_with fail
  rw [<-hV]
  clear x0 x1 x2 x3
  refine (HRN.out _ _ _ _ _ X _ lb D V (λ_=>True) (by have:=HSB.out.1;omega) HSB.out.2 (HB.out.up HBV.out) HD.out HMS.out).mono ?_
  rintro e w5 ⟨ta,tn,tc,ta2,tn2,tc2,ta3,tn3,tc3,qa,qn,qc,L5,rfl,hm5,hr5,hb5⟩
  rw [<-hA]
  clear hV hA
  have HQL:Hid ((Mc.ky X lb).length<=100):=by
   have:=HSB.out.1
   show _<=_
   unfold Mc.ky
   split
   ·rw [Mc.uM];exact this
   ·exact MV _
  have HPP2:=HPP.out
  clear HPP
  generalize Mc.gO X lb = F at HPP2 |-
  generalize Mc.gT X lb = T at HPP2 hm5 |-
  generalize Mc.ky X lb = Q at HPP2 HQL hr5
  have HPP:Hid _:=HPP2
  clear HPP2
  obtain ⟨D5,hD5⟩:∃ D,T.dn = D:=⟨_,rfl⟩
  have HD5:Hid (T.dn=D5):=hD5
  rw [hD5]
  obtain ⟨U,hU⟩:∃ V,V = w5.alloc (gB (.slice ta tn tc) (.slice ta2 tn2 tc2) (.slice ta3 tn3 tc3) D5):=⟨_,rfl⟩
  obtain ⟨J,hJ⟩:∃ n,n = w5.heap.size:=⟨_,rfl⟩
  have hbU:Below w5.heap.size w5 U:=by rw [hU];exact (MJ _ _).alloc (MI _) _
  have hbVU:Below V.1.size V U:=hb5.trans (hbU.mono hb5.size)
  have HMT:Hid (Ms (λ_=>True) U (.slice ta tn tc) (.slice ta2 tn2 tc2) (.slice ta3 tn3 tc3) L5 T):=(hm5.up hbU).imp λ_ _ _=>trivial
  have HQA:Hid (At oW (λ_=>True) U (.slice qa qn qc) Q):=(hr5.up hbU).imp λ_ _ _=>trivial
  have HPA:Hid (At oW (λ_=>True) U (.slice ra rn rc) P):=HPL.out.up hbVU
  have HXJ:Hid (U.1[J]?=some (gB (.slice ta tn tc) (.slice ta2 tn2 tc2) (.slice ta3 tn3 tc3) D5)):=by show _=_;rw [hU,hJ];exact MD _ _
  have HBU:=hH<|HBV.out.trans (hbVU.mono HBV.size)
  have HAU:Hid (At tR (λ_=>True) U (.slice pa NA ca) la):=HA.out.up HBU.out
  have HR0:Hid (Row tR U U.1.size 32 (.slice none 0 0) []):=Row.nil _ _ _ _
  clear hm5 hr5 hb5 hbU hbVU HMS HPL HXA HBV hD5 HD
  obtain ⟨j0,hji,hy0,hy1,hy2⟩:=NQ Io
  have hla:la.length<=100:=HSA.out.1
  have hlb:lb.length<=100:=HSB.out.1
  go_wp2_with (at_builtin;first
   | (rw [<-hU];refine eF _ rfl _ _ 22 rfl tR (λ_=>True) U.heap.size 32 j0 _ 40 Tryz.underlying22 hji hy0 hy1 hy2 rfl (.slice none 0 0) [] rfl HR0.out _ la rfl HAU.out (by unfold maxLen;simp only [List.length_nil];omega) (by simp only [List.length_nil];omega) (MI _) ?_;intro v7 w7 hrow7 hg7 hloc7;have HB7:Hid (Below U.1.size U w7):=(MJ _ _).grown hg7 (MI _) (λk hk=>by simp [Value.ownBlock] at hk);have HR7:Hid (Row tR w7 U.1.size 32 v7 la):=(by show Row tR w7 _ _ v7 la;simpa using hrow7);have HB7':Hid (At tR (λ_=>True) w7 (.slice pb NB cb) lb):=HB.out.up (HBU.out.trans (HB7.out.mono HBU.out.size));have hs7:=HB7.out.size;clear hrow7 hg7 hloc7)
   | (refine eF _ rfl _ _ 22 rfl tR (λ_=>True) U.heap.size 32 j0 _ 40 Tryz.underlying22 hji hy0 hy1 hy2 rfl v7 la rfl HR7.out _ lb rfl HB7'.out (by unfold maxLen;omega) (by omega) hs7 ?_;intro v8 w8 hrow8 hg8 hloc8))
  rw [<-hJ]
  clear hU hJ
  have HB8:Hid (Below U.1.size U w8):=HB7.out.grown hg8 hs7 (λk hk=>(HR7.out.lt k hk).1)
  have HR8:Hid (At tR (λ_=>True) w8 v8 (la++lb)):=hrow8.at.imp λ_ _ _=>trivial
  clear hrow8 hg8 hloc8 hs7 HR7 HB7 HB7' hji hy0 hy1 hy2
  refine (qu w8).mono ?_
  rintro e w9 ⟨ap9,n9,cp9,L9,rfl,hm9,hb9⟩
  have HM9:Hid _:=hm9
  have HB9:=hH<|HB8.out.trans (hb9.mono HB8.size)
  have HR9:Hid (At tR (λ_=>True) w9 v8 (la++lb)):=HR8.out.up hb9
  clear hm9 hb9 HR8 HB8
  go_wp2_with fail
  refine (HRN.out _ _ _ _ _ Mc.x0 v8 (la ++ lb) 0 w9 (λ_=>True) (by rw [MW];omega) (λy hy=>(Na.1 hy).elim (HSA.out.2 y) (HSB.out.2 y)) HR9.out rfl HM9.out).mono ?_
  rintro e w10 ⟨ga,gn,gc,ga2,gn2,gc2,ga3,gn3,gc3,sa,sn,sc,L10,rfl,hm10,hr10,hb10⟩
  obtain ⟨q1,q2,q3,q4⟩:=HPP.out
  rw [q2] at hm10
  rw [q1,q2,HD5.out]
  have HFZ:Hid (F=0->Mc.ky Mc.x0 (la++lb)=P++Q/\Mc.wh T=true):=q3
  have HFN:Hid (F≠0->Q=[]/\Mc.ky Mc.x0 (la++lb)=[]):=q4
  obtain ⟨G,hG⟩:∃ G,Mc.ky Mc.x0 (la ++ lb) = G:=⟨_,rfl⟩
  rw [hG] at HFZ HFN hr10
  obtain ⟨V,hV⟩:∃ V,V = w10.alloc (gB (.slice ga gn gc) (.slice ga2 gn2 gc2) (.slice ga3 gn3 gc3) D5):=⟨_,rfl⟩
  obtain ⟨K,hK⟩:∃ n,n = w10.heap.size:=⟨_,rfl⟩
  have hbV:Below w10.heap.size w10 V:=by rw [hV];exact (MJ _ _).alloc (MI _) _
  have hbUV:Below U.1.size U V:=(HB9.out.trans (hb10.mono HB9.out.size)).trans (hbV.mono (MS HB9.out.size hb10.size))
  have HMU:Hid (Ms (λ_=>True) V (.slice ga gn gc) (.slice ga2 gn2 gc2) (.slice ga3 gn3 gc3) L10 T):=(hm10.up hbV).imp λ_ _ _=>trivial
  have HGL:Hid (At oW (λ_=>True) V (.slice sa sn sc) G):=(hr10.up hbV).imp λ_ _ _=>trivial
  have HQV:Hid (At oW (λ_=>True) V (.slice qa qn qc) Q):=HQA.out.up hbUV
  have HPV:Hid (At oW (λ_=>True) V (.slice ra rn rc) P):=HPA.out.up hbUV
  have HXK:Hid (V.1[K]?=some (gB (.slice ga gn gc) (.slice ga2 gn2 gc2) (.slice ga3 gn3 gc3) D5)):=by show _=_;rw [hV,hK];exact MD _ _
  have HXV:Hid (V.1[J]?=some (gB (.slice ta tn tc) (.slice ta2 tn2 tc2) (.slice ta3 tn3 tc3) D5)):=cK HXJ.out hbUV
  have HBW:=hH<|HBU.out.trans (hbUV.mono HBU.size)
  have HSC:Hid (Below V.heap.size V V->Calls Tryz.prog 11 #[iB (.slice ta tn tc) (.slice ta2 tn2 tc2) (.slice ta3 tn3 tc3) D5,iB (.slice ga gn gc) (.slice ga2 gn2 gc2) (.slice ga3 gn3 gc3) D5] V λe w'=>e = .returned (.bool true)/\Below V.heap.size V w'):=λ_=>by
   have:=tw (HMT.out.up hbUV) HMU.out
   rw [HD5.out] at this
   exact this
  have hln:∀ {v:Value} {n:Nat} {a:Option Addr} {c:Nat} {l:List ByteArray},At oW (λ_=>True) V (.slice a n c) l->l.length = n:=λh=>by
   obtain ⟨a2,c2,he,-,-⟩:=h.open
   injection he with h1 h2 h3
   exact h2.symm
  have HLN:Hid (G.length = sn/\Q.length = qn/\P.length = rn):=⟨hln (v:=.bool true) HGL.out,hln (v:=.bool true) HQV.out,hln (v:=.bool true) HPV.out⟩
  obtain ⟨x0,x1,x2,x3⟩:=dg HXK.out
  obtain ⟨y0,y1,y2,y3⟩:=dg HXV.out
  rw [hK] at x0 x1 x2 x3
  rw [hV] at x0 x1 x2 x3 y0 y1 y2 y3
  have t1:(F != F) = false:=by simp
  clear q1 q2 q3 q4 hm10 hr10 hb10 hbV hbUV hln hG HPP HM9 HB9 HR9 HMT HQA HPA HXJ HBU HAU HR0
  go_wp2_with fail
  rw [<-hV]
  refine (HSC.out (MJ _ _)).mono ?_
  rintro e w11 ⟨rfl,hb11⟩
  rw [<-hK]
  have HB11:Hid (Below V.1.size V w11):=hb11
  have HBT:Hid (∀ Z,Below V.heap.size V Z->Below w.heap.size w Z):=λZ h=>HBW.out.trans (h.mono HBW.out.size)
  clear hb11 hV hK x0 x1 x2 x3 y0 y1 y2 y3 t1 HSC
  by_cases hf:F = 0
  ·subst hf
   obtain ⟨r1,r2⟩:=HFZ.out rfl
   have hlen:sn = rn + qn:=by
    have h1:=HLN.out
    rw [r1,MW] at h1
    omega
   have hrn:rn<=100:=by have:=HRL.out;have:=HLN.out;omega
   have hqn:qn<=100:=by have:=HQL.out;have:=HLN.out;omega
   have hcap:rn<=sc:=by
    by_cases h0:0 < sn
    ·have:=HGL.out.JN h0
     omega
    ·omega
   have g1:=At.tk HGL.out (k:=rn) (by omega)
   have g2:=Js HGL.out (lo:=rn) (hi:=sn) (by omega) (MI _)
   have e1:G.take rn = P:=by rw [r1,<-HLN.out.2.2,List.take_left]
   rw [e1] at g1
   have e2:(G.take sn).drop rn = Q:=by rw [<-HLN.out.1,Ns,r1,<-HLN.out.2.2,List.drop_left]
   rw [e2] at g2
   have HG1:Hid (At oW (λ_=>True) V (.slice sa rn sc) P):=g1
   have e3:sliced sa rn sn sc oW.sz = .slice (if sc = rn then sa else sa.map (·.add (rn * 1))) (sn - rn) (sc - rn):=rfl
   rw [e3,Nat.mul_one,show sn - rn = qn by omega] at g2
   have HGa:Hid (sc = rn->At oW (λ_=>True) V (.slice sa qn 0) Q):=λh=>by
    rw [MC h,h,Nat.sub_self] at g2
    exact g2
   have HGb:Hid (sc≠rn->At oW (λ_=>True) V (.slice (sa.map (·.add rn)) qn (sc - rn)) Q):=λh=>by
    rw [ME h] at g2
    exact g2
   have hle:(sn == rn + qn) = true:=by simp [hlen]
   have hli:((sn:Int) == (rn:Int) + (qn:Int)) = true:=by simp [hlen]
   have HTC:Hid (∀ Z,Below V.heap.size V Z->Calls Tryz.prog 14 #[iB (.slice ga gn gc) (.slice ga2 gn2 gc2) (.slice ga3 gn3 gc3) D5] Z λe w'=>e = .returned (.int .i64 0)/\Below Z.heap.size Z w'):=λZ hZ=>by
    have h1:=HMU.out.up hZ
    have:=pE _ _ _ D5 L10 T.O T.Z Z h1.tab h1.ok (h1.ops.imp λ_ _ _=>trivial) (h1.jB.imp λ_ _ _=>trivial)
    rw [MC (show Sh.whole (pl L10) T.O T.Z D5 = true by rw [h1.eq,<-HD5.out];exact r2)] at this
    exact this
   clear g1 g2 e1 e2 e3
   go_wp2_with fail
   refine (uY _ _ P w11 (HG1.out.up HB11.out) (HPV.out.up HB11.out)).mono ?_
   rintro e w12 ⟨rfl,hb12⟩
   have HB12:=hH<|HB11.out.trans (hb12.mono HB11.size)
   clear hb12
   go_wp2_with fail
   all_goals
    refine (uY _ _ Q w12 (by first | exact (HGa.out (by omega)).up HB12.out | exact (HGb.out (by omega)).up HB12.out) (HQV.out.up HB12.out)).mono ?_
    rintro e w13 ⟨rfl,hb13⟩
    have HB13:=hH<|HB12.out.trans (hb13.mono HB12.size)
    obtain ⟨x0,x1,x2,x3⟩:=dg (cK HXK.out HB13.out)
    clear hb13
    go_wp2_with fail
    refine (HTC.out w13 HB13.out).mono ?_
    rintro e w14 ⟨rfl,hb14⟩
    have HB14:Hid (Below w.1.size w w14):=HBT.out _ (HB13.out.trans (hb14.mono HB13.out.size))
    clear hb14
    go_wp2_with fail
    refine (HTW.out _ HB14.out).mono ?_
    rintro e w15 ⟨rfl,hb15⟩
    go_wp2
    go_ret
    exact ⟨rfl,hb15⟩
  ·obtain ⟨r1,r2⟩:=HFN.out hf
   have h1:=HLN.out
   rw [r1,r2] at h1
   have hq:qn=0:=h1.2.1.symm
   have hs:sn=0:=h1.1.symm
   subst hq hs
   have t1:(F != 0) = true:=by simp [hf]
   clear h1
   go_wp2_with fail
   refine (HTW.out _ (HBT.out _ HB11.out)).mono ?_
   rintro e w15 ⟨rfl,hb15⟩
   go_wp2
   go_ret
   exact ⟨rfl,hb15⟩
 ·have t0:(E != 0) = true:=by simp [h0]
  have HSC:Hid (Calls Tryz.prog 11 #[iB (.slice ua un uc) (.slice oa on oc) (.slice za zn zc) D,iB (.slice none 0 0) (.slice none 0 0) (.slice none 0 0) 0] V λe w'=>e = .returned (.bool true)/\Below V.heap.size V w'):=by
   have h1:=HST.out h0
   have h2:=HMS.out
   rw [h1] at h2
   have h3:=HD.out
   rw [h1] at h3
   have:=tw h2 (Ms.none (λ_=>True) V)
   rw [h3] at this
   rw [<-h3] at this |-
   exact this
  go_wp2_with fail
  rw [<-hV]
  refine HSC.out.mono ?_
  rintro e w5 ⟨rfl,hb5⟩
  have HB5:=hH<|HBV.out.trans (hb5.mono HBV.size)
  clear hb5
  go_wp2_with fail
  refine (HTW.out _ HB5.out).mono ?_
  rintro e w6 ⟨rfl,hb6⟩
  go_wp2
  go_ret
  exact ⟨rfl,hb6⟩
theorem rC (os : Os) (started : os.Started) (H : Type) (enc : TypeId × Value → H) :
    ReturnsInHanded {} Tryz.checked os 4 .any (Rows.machPartsSpec.pre6 enc Tryz.prog Tryz.f4 Rows.machPartsRow.domain false) (Rows.machPartsSpec.post enc Tryz.prog Tryz.f4 false true false false) := by
  refine returnsInHanded_of_change_sized (C := Tryz.checked) own started (by kernel_rfl) Tryz.func4
    (ChangeSpec.witness6 (enc := enc) (C := Tryz.checked) false ⟨#[], #[.slice none 0 0, .slice none 0 0], []⟩ 8 (by kernel_rfl) (by kernel_rfl) (by kernel_rfl) (by kernel_rfl)) ?_
  intro W base args ds gs before hval0 hW hcnd hsized _
  have hval : ∀ (j : Nat) t v, Tryz.f4.params[j]? = some t → args[j]? = some v → Value.okWide Tryz.prog W .any base t v := hval0
  have hW' := hW
  obtain ⟨p, q, hA0, hV, rfl, hfz, hnd⟩ := hW
  have hA : DataW.TrodAll enc Tryz.prog W 0 (λ_ => true) true Tryz.f4.params.toList args.toList ds p := hA0
  rw [Tryz.params4] at hA hval
  obtain ⟨v0, v1, d0, d1, p0, p1, rfl, rfl, rfl, h0, h1⟩ := trodAll_two hA
  obtain ⟨rfl, rfl⟩ := trodVars_none hV
  have hwt0 : ∀ n ∈ d0.weights Tryz.prog 22, n ≤ reachBytes := λn hn => by
    have := Ok.1 hsized n (DataW.weights_mem_each (j := 0) (t := 22) (d := d0) rfl rfl n hn)
    simpa using this
  obtain ⟨l0, hl0, hs0⟩ := mI (okWide_slice Tryz.underlying22 (hval 0 22 v0 rfl rfl)) h0 hwt0
  have hwt1 : ∀ n ∈ d1.weights Tryz.prog 22, n ≤ reachBytes := λn hn => by
    have := Ok.1 hsized n (DataW.weights_mem_each (j := 1) (t := 22) (d := d1) rfl rfl n hn)
    simpa using this
  obtain ⟨l1, hl1, hs1⟩ := mI (okWide_slice Tryz.underlying22 (hval 1 22 v1 rfl rfl)) h1 hwt1
  refine (Ca v0 v1 l0 l1 W hl0 hs0 hl1 hs1).mono λe W' ⟨he, hg⟩ => ⟨_, he, ?_⟩
  exact Law.post laidOut (by kernel_rfl) rfl Tryz.underlying4 hW' rfl rfl hg
theorem machParts_holds : Rows.MachPartsSaid :=
  OpenClaim.holds_of_wide 4 Tryz.f4 rfl rfl rfl rfl rfl rfl rfl ⟨rfl, rfl, rfl, rfl, rfl⟩ rfl rfl rfl rfl rfl (by kernel_rfl) Tryz.func4 (by kernel_rfl)
    (of_decide_eq_true (by kernel_rfl)) (by unfold Func.isWrapper; first | (rw [MC (by decide +kernel)]; kernel_rfl) | (rw [ME (by decide +kernel)]; exact ⟨rfl, rfl⟩))
    (λos started H enc _ => rC os started H enc)
#print axioms machParts_holds
end Go.Proofs.YtiifhfmekbhlnaaGreat
