/- Part 22. -/
import Derived.Deep.AppendLies
import Derived.Deep.RegionLaw
import Derived.Test.YtiifhfmekbhlnaaGreatH21
set_option maxHeartbeats 8000000
set_option maxRecDepth 100000
namespace Go.Proofs.YtiifhfmekbhlnaaGreat.Ks.Rs
open ChangeShapes WideShapes ChangeAt RowKit Deep
open Go.Proofs.YtiifhfmekbhlnaaGreat.Ks.Ak
theorem gW (s)(w)(hs:s.size<=maxLen):Calls Tryz.prog 116 #[.string s] w λe w'=>e=.returned (.int .i64 (Pl.de s))/\w'=w:=by
 have a:=hH hs;clear hs;go_enter Tryz.func116,Tryz.ntmps116;go_wp2_with fail;refine (pd s _ a).mono ?_;rintro e b ⟨rfl,rfl⟩;go_wp2;go_ret;exact⟨rfl,rfl⟩
theorem lf (S)(w):Calls Tryz.prog 118 #[.string S] w λe w'=>e=.returned (VH (jR S) (iC S))/\Bw w w':=by
 by_cases h7:S.size=7
 ·have b : Hid ((S.extract 0 1).size ≤ maxLen ∧ (S.extract 1 7).size ≤ maxLen) := ⟨by rw[NL];unfold maxLen;omega,by rw[NL];unfold maxLen;omega⟩
  have a:Hid (jR S=Pl.de (S.extract 0 1)/\iC S=Pl.de (S.extract 1 7)):=⟨by unfold jR;rw[MC h7],by unfold iC;rw[MC h7]⟩;go_enter Tryz.func118,Tryz.ntmps118;go_wp2
  go_region_held3 (λ_=>True) (trivial) (first
   | (go_at_call_of 116 (Value.string (S.extract 0 1));refine (gW _ _ b.out.1).mono ?_;rintro e d ⟨rfl,rfl⟩)
   | (go_at_call_of 116 (Value.string (S.extract 1 7));refine (gW _ _ b.out.2).mono ?_;rintro e d ⟨rfl,rfl⟩))
  all_goals
   generalize Pl.de (S.extract 0 1)=k at a |-;generalize Pl.de (S.extract 1 7)=l at a |-;go_wp2;refine MK (v:=VH k l) (by simp[results,Tryz.results118,go_sem]) rfl ⟨?_,?_⟩
   ·rw[a.out.1,a.out.2]
   ·first | exact (qG _ _).drew | exact ((MJ _ _).drew).alloc qn _
 ·have H : Hid (jR S=0 ∧ iC S=0) := ⟨by unfold jR;rw[ME h7],by unfold iC;rw[ME h7]⟩
  have c:((S.size:Int)!=7)=true:=qt
  clear h7;rw[H.out.1,H.out.2];go_enter Tryz.func118,Tryz.ntmps118;go_wp2;exact MK (v:=VH 0 0) (by simp[results,Tryz.results118,go_sem]) rfl ⟨rfl,qG _ _⟩
theorem Ag {w:World}{b:Nat}{k l s t:Int}(h:w.1[b]?=some (BA k l s t)):w.cell? ⟨b,0,none⟩=some (.int .i64 k)/\w.cell? ⟨b,1,none⟩=some (.int .i64 l)/\w.cell? ⟨b,2,none⟩=some (.int .i64 s)/\w.cell? ⟨b,3,none⟩=some (.int .i64 t):=qi h
theorem wA {w:World}{b:Nat}{k l s t:Int}(h:w.1[b]?=some (BA 0 0 0 0)):((((w.setCell ⟨b,0,none⟩ (.int .i64 k)).setCell ⟨b,1,none⟩ (.int .i64 l)).setCell ⟨b,2,none⟩ (.int .i64 s)).setCell ⟨b,3,none⟩ (.int .i64 t)).1[b]?=some (BA k l s t):=by
 simp[World.setCell,Array.getElem?_modify,h]
theorem vr (S:ByteArray)(w:World):Calls Tryz.prog 120 #[.string S] w λe w'=>e=.returned (VA (Re.ua S).1 (Re.ua S).2.1 (Re.ua S).2.2.1 (Re.ua S).2.2.2)/\Bw w w':=by
 have f:Hid (At.dA S=VA (Re.ua S).1 (Re.ua S).2.1 (Re.ua S).2.2.1 (Re.ua S).2.2.2):=Re.G5 S;obtain⟨k,g⟩:=qE ((Re.ua S).1);obtain⟨l,h⟩:=qE ((Re.ua S).2.1);obtain⟨s,i⟩:=qE ((Re.ua S).2.2.1);obtain⟨t,m⟩:=qE ((Re.ua S).2.2.2);rw[g,h,i,m]at f |-;clear g h i m;go_enter Tryz.func120,Tryz.ntmps120;go_wp2_with fail;refine (zU S _).mono ?_;rintro e d ⟨rfl,a⟩;rw[f.out];have b:Hid (d.1[w.1.size]?=some (BA 0 0 0 0)):=dI (MD w (BA 0 0 0 0)) a;have c:Hid (Bw w d):=(qG _ _).trans (a.mono (by simp));obtain⟨z,A,B,C⟩:=Ag b.out;have x:=dC b.out;have y:∀ j,d.frozen? ⟨w.1.size,j,none⟩=false:=λj=>by simp[World.frozen?,b.out]
 have n:=c.out.size;clear a;go_wp2;obtain⟨o,q,r,u⟩:=Ag ((ML _ (BA k l s t) _ (dC (wA (k:=k) (l:=l) (s:=s) (t:=t) b.out))).trans (wA (k:=k) (l:=l) (s:=s) (t:=t) b.out));refine MK (v:=VA k l s t) (by simp[results,Tryz.results120,go_sem,o,q,r,u]) rfl ⟨rfl,?_⟩
 first
  | exact ((((c.out.alloc n _).setCell (p:=⟨w.1.size,0,none⟩) (MI _) _).setCell (p:=⟨w.1.size,1,none⟩) (MI _) _).setCell (p:=⟨w.1.size,2,none⟩) (MI _) _).setCell (p:=⟨w.1.size,3,none⟩) (MI _) _
  | exact ((((c.out.setCell (p:=⟨w.1.size,0,none⟩) (MI _) _).setCell (p:=⟨w.1.size,1,none⟩) (MI _) _).setCell (p:=⟨w.1.size,2,none⟩) (MI _) _).setCell (p:=⟨w.1.size,3,none⟩) (MI _) _).alloc (by simp[World.setCell];omega) _
theorem Et (S:ByteArray)(w:World)(hS:S.size<=65535):Calls Tryz.prog 123 #[.string S] w λe w'=>e=.returned (VE (Re.jr S))/\Bw w w':=by
 by_cases h13:S.size<13
 ·have H : Hid (Re.jr S=(⟨#[]⟩,0,0,0)) := by show Re.jr S=_;unfold Re.jr;rw[MC h13]
  rw[H.out];have f:(S.size:Int)<13:=by omega
  go_enter Tryz.func123,Tryz.ntmps123;go_wp2;exact MK (v:=VE (⟨#[]⟩,0,0,0)) (by simp[results,Tryz.results123,go_sem]) rfl ⟨rfl,qG _ _⟩
 ·have f : ¬ (S.size : Int)<13 := by omega
  have r:=hH<|show (S.extract 0 6).size<=maxLen by rw[NL];unfold maxLen;omega
  have h:Hid (Re.jr S=(S.extract 13 S.size,Pl.de (S.extract 0 6),jR (S.extract 6 13),iC (S.extract 6 13))):=by show Re.jr S=_;unfold Re.jr;rw[ME h13]
  have B:(6:Int)<=(S.size:Int):=by omega
  have s:(13:Int)<=(S.size:Int):=by omega
  obtain⟨m,a⟩:=qE (Pl.de (S.extract 0 6));obtain⟨n,b⟩:=qE (jR (S.extract 6 13));obtain⟨o,c⟩:=qE (iC (S.extract 6 13));rw[a,b,c]at h;have i:Hid (Pl.de (S.extract 0 6)=m/\jR (S.extract 6 13)=n/\iC (S.extract 6 13)=o):=⟨a,b,c⟩;obtain⟨x,q⟩:=qE (Re.jr S);rw[q]at h |-;have k:Hid ((w.alloc (BE (⟨#[]⟩,0,0,0))).1[w.1.size]?=some (BE (⟨#[]⟩,0,0,0))):=MD w _;clear a b c h13 q;go_enter Tryz.func123,Tryz.ntmps123;go_wp2
  go_region_held3 (λ_=>True) (trivial) (first
   | (go_at_call 116;refine (gW _ _ r.out).mono ?_;rintro e E ⟨rfl,rfl⟩;rw[i.out.1])
   | (go_at_call 118;refine (lf _ _).mono ?_;rintro e l ⟨rfl,g⟩;rw[i.out.2.1,i.out.2.2];have d:=qK g k;have t:=hH<|(((MJ _ _).alloc (MI _) (BE (⟨#[]⟩,0,0,0))).drew).trans (g.mono (by simp));have u:=(lS d.out).1;have y:=(lS d.out).2.1;have z:=(lS d.out).2.2.1;have A:=(lS d.out).2.2.2;have C:=dC d.out;have D:∀ j,l.frozen? ⟨w.1.size,j,none⟩=false:=(λj=>by simp[World.frozen?,d.out])))
  all_goals
   go_wp2;refine MK (v:=VE (S.extract 13 S.size,m,n,o)) (by simp[results,Tryz.results123,go_sem,u,y,z,A]) rfl ⟨?_,?_⟩
   ·rw[h.out]
   ·exact (((t.out.setCell (p:=⟨w.1.size,0,none⟩) (MI _) _).setCell (p:=⟨w.1.size,1,none⟩) (MI _) _).setCell (p:=⟨w.1.size,2,none⟩) (MI _) _).setCell (p:=⟨w.1.size,3,none⟩) (MI _) _
theorem Ik:(Tryz.prog.info? 116).map (λi=>(i.zero,i.size,i.bytes))=some (some (.agg #[.string ⟨#[]⟩,.int .i64 0,.int .i64 0,.int .i64 0]),4,40):=qk
structure Rs (n0 B:Nat) (w0:World) (r:gw) (v:Value) (w:World):Prop where
 box:w.1[B]? = some (BR r v)
 row:w.ownsRow n0 116 4 v r.cE.length (EE.flat r.cE)
 below:Below n0 w0 w
 base:n0<=B
 start:n0<=w0.1.size
theorem Rs.step {n0 B:Nat}{w0 w w':World}{r:gw}{v:Value}(h:Rs n0 B w0 r v w)(hb:Bw w w'):Rs n0 B w0 r v w' :=
 ⟨dI h.box hb,h.row.kept (cP hb none) (Classical.em _),h.below.trans (hb.mono (MS h.start h.below.size)),h.base,h.start⟩
theorem Rs.drew {n0 B:Nat}{w0 w:World}{r:gw}{v:Value}(h:Rs n0 B w0 r v w):Rs n0 B w0 r v w.drew:=⟨h.box,h.row,h.below.drew,h.base,h.start⟩
def iV (B:Nat) (w w':World):Prop:=w.1.size<=w'.1.size/\∀ k o t,t≠116->k≠B->w.1[k]?=some (.cells o t (0,0))->w'.1[k]?=some (.cells o t (0,0))
theorem iV.refl (B)(w):iV B w w:=⟨qn,λ_ _ _ _ _ h=>h⟩
theorem iV.trans {B:Nat}{a b c:World}(h:iV B a b)(k:iV B b c):iV B a c:=⟨MS h.1 k.1,λi o t d f g=>k.2 i o t d f (h.2 i o t d f g)⟩
theorem iV.pK {B:Nat}{w w':World}(hb:Bw w w'):iV B w w':=⟨hb.size,λ_ _ _ _ _ h=>dI h hb⟩
theorem not_row {W:World}{B:Nat}{o:Array Value}{t e:TypeId}{fr:Nat × Nat}(h:W.1[B]?=some (.cells o t fr))(hte:t≠e){base size k:Nat}{v:Value}{xs:List Value}(hr:W.ownsRow base e size v k xs):some B≠v.ownBlock:=by
 rcases hr.2 with⟨rfl,_⟩ | ⟨g,b,c,rfl,_,a,_⟩
 ·simp[Value.ownBlock]
 ·intro d
  obtain rfl:B=g:=by simpa [Value.ownBlock]using d
  have:=h.symm.trans a;simp at this;exact hte this.2.1
theorem eH (w:World)(A j:Nat)(v:Value):w.grownBy (w.setCell ⟨A,j,none⟩ v) (some A):=⟨rfl,rfl,rfl,by simp[World.setCell],λk _ a=>MM _ _ _ _ (λe=>a (by rw[e]))⟩
theorem Rs.put {n0 B:Nat}{w0 w w':World}{r r':gw}{v:Value}(h:Rs n0 B w0 r v w)(hg:w.grownBy w' (some B))(hb:w'.1[B]?=some (BR r' v))(he:r'.cE=r.cE):Rs n0 B w0 r' v w'/\iV B w w':=by
 refine⟨⟨hb,?_,?_,h.base,h.start⟩,hg.size,λk o t _ a b=>(hg.block k (dC b) (by simpa using a)).trans b⟩
 ·rw[he];exact h.row.kept hg (.inr (not_row h.box qd h.row).symm)
 ·exact h.below.grown hg (MS h.start h.below.size) (λk a=>by cases a;exact h.base)
theorem Rs.frozen {n0 B:Nat}{w0 w:World}{r:gw}{v:Value}(h:Rs n0 B w0 r v w)(j):w.frozen? ⟨B,j,none⟩=false:=by simp[World.frozen?,h.box]
theorem vZ (n0 B:Nat) (w0:World) (r:gw) (v:Value) (s:ByteArray) (w:World) (h:Rs n0 B w0 r v w) (hs:s.size<=65535):Calls Tryz.prog 115 #[.string s,.pointer (some ⟨B,0,none⟩)] w λe w'=>e=.returned (.tuple #[])/\∃ v',Rs n0 B w0 { r with e:=Pl.de s } v' w'/\iV B w w':=by
 obtain⟨i,g,c,k,l,m,n,a,b,o⟩:=r;have f:Hid (Rs n0 B w0 ⟨i,g,c,k,l,m,n,a,b,o⟩ v w):=h;clear h;have p:Hid (s.size<=maxLen):=by show s.size<=maxLen;unfold maxLen;omega
 obtain⟨u,x,y,z,A,C,D,E,F,G⟩:=dK f.out.box;have q:=dC f.out.box;have t:=λj=>f.out.frozen j
 go_enter Tryz.func115,Tryz.ntmps115;go_wp2_with fail;refine (gW s _ p.out).mono ?_;rintro e H ⟨rfl,rfl⟩;go_wp2
 go_end0
 have d:=f.out.put (r':={ (⟨i,g,c,k,l,m,n,a,b,o⟩:gw)with e:=Pl.de s }) (eH _ B 0 (.int .i64 (Pl.de s))) (by simp[World.setCell,Array.getElem?_modify,f.out.box]) rfl
 first | exact⟨rfl,v,d.1,d.2⟩ | exact⟨rfl,⟨v,d.1⟩,d.2⟩ | exact⟨⟨v,d.1⟩,d.2⟩
theorem xq (n0 B:Nat) (w0:World) (r:gw) (v:Value) (s:ByteArray) (w:World) (h:Rs n0 B w0 r v w) (hs:s.size<=65535):Calls Tryz.prog 124 #[.string s,.pointer (some ⟨B,0,none⟩)] w λe w'=>e=.returned (.tuple #[])/\∃ v',Rs n0 B w0 { r with n:=Pl.de s } v' w'/\iV B w w':=by
 obtain⟨i,g,c,k,l,m,o,a,b,p⟩:=r;have f:Hid (Rs n0 B w0 ⟨i,g,c,k,l,m,o,a,b,p⟩ v w):=h;clear h;have q:Hid (s.size<=maxLen):=by show s.size<=maxLen;unfold maxLen;omega
 obtain⟨x,y,z,A,C,D,E,F,G,H⟩:=dK f.out.box;have t:=dC f.out.box;have u:=λj=>f.out.frozen j
 go_enter Tryz.func124,Tryz.ntmps124;go_wp2_with fail;refine (gW s _ q.out).mono ?_;rintro e I ⟨rfl,rfl⟩;go_wp2
 go_end0
 have d:=f.out.put (r':={ (⟨i,g,c,k,l,m,o,a,b,p⟩:gw)with n:=Pl.de s }) (eH _ B 9 (.int .i64 (Pl.de s))) (by simp[World.setCell,Array.getElem?_modify,f.out.box]) rfl
 first | exact⟨rfl,v,d.1,d.2⟩ | exact⟨rfl,⟨v,d.1⟩,d.2⟩ | exact⟨⟨v,d.1⟩,d.2⟩
theorem wm (n0 B:Nat) (w0:World) (r:gw) (v:Value) (s:ByteArray) (w:World) (h:Rs n0 B w0 r v w) (_hs:s.size<=65535):Calls Tryz.prog 121 #[.string s,.pointer (some ⟨B,0,none⟩)] w λe w'=>e=.returned (.tuple #[])/\∃ v',Rs n0 B w0 { r with data:=s } v' w'/\iV B w w':=by
 obtain⟨i,g,c,k,l,m,n,a,b,o⟩:=r;have f:Hid (Rs n0 B w0 ⟨i,g,c,k,l,m,n,a,b,o⟩ v w):=h;clear h;obtain⟨t,u,x,y,z,A,C,D,E,F⟩:=dK f.out.box;have p:=dC f.out.box;have q:=λj=>f.out.frozen j
 go_enter Tryz.func121,Tryz.ntmps121;go_wp2
 go_end0
 have d:=f.out.put (r':={ (⟨i,g,c,k,l,m,n,a,b,o⟩:gw)with data:=s }) (eH _ B 7 (.string s)) (by simp[World.setCell,Array.getElem?_modify,f.out.box]) rfl
 first | exact⟨rfl,v,d.1,d.2⟩ | exact⟨rfl,⟨v,d.1⟩,d.2⟩ | exact⟨⟨v,d.1⟩,d.2⟩
theorem wU (n0 B:Nat) (w0:World) (r:gw) (v:Value) (s:ByteArray) (w:World) (h:Rs n0 B w0 r v w) (_hs:s.size<=65535):Calls Tryz.prog 117 #[.string s,.pointer (some ⟨B,0,none⟩)] w λe w'=>e=.returned (.tuple #[])/\∃ v',Rs n0 B w0 { r with no:=jR s,gen:=iC s } v' w'/\iV B w w':=by
 obtain⟨re,rno,rgen,rk,rl,rs,rt,rdata,rents,rn⟩:=r;have HH:Hid (Rs n0 B w0 ⟨re,rno,rgen,rk,rl,rs,rt,rdata,rents,rn⟩ v w):=h;clear h;go_enter Tryz.func117,Tryz.ntmps117;go_wp2_with fail;refine (lf s _).mono ?_;rintro e w1 ⟨rfl,hb1⟩;have HH1:Hid (Rs n0 B w0 ⟨re,rno,rgen,rk,rl,rs,rt,rdata,rents,rn⟩ v w1/\iV B w w1):=⟨HH.out.step hb1,iV.pK hb1⟩;obtain⟨c0,c1,c2,c3,c4,c5,c6,c7,c8,c9⟩:=dK HH1.out.1.box;have hlt:=dC HH1.out.1.box;have hfz:=λj=>HH1.out.1.frozen j
 clear hb1;go_wp2
 go_end0
 have hp:=HH1.out.1.put (r':={ (⟨re,rno,rgen,rk,rl,rs,rt,rdata,rents,rn⟩:gw)with no:=jR s,gen:=iC s }) (cQ (eH w1 B 1 (.int .i64 (jR s))) (eH _ B 2 (.int .i64 (iC s)))) (by simp[World.setCell,Array.getElem?_modify,HH1.out.1.box]) rfl;exact⟨rfl,v,hp.1,HH1.out.2.trans hp.2⟩
theorem wK (n0 B:Nat) (w0:World) (r:gw) (v:Value) (s:ByteArray) (w:World) (h:Rs n0 B w0 r v w) (_hs:s.size<=65535):Calls Tryz.prog 119 #[.string s,.pointer (some ⟨B,0,none⟩)] w λe w'=>e=.returned (.tuple #[])/\∃ v',Rs n0 B w0 { r with k:=(Re.ua s).1,l:=(Re.ua s).2.1,s:=(Re.ua s).2.2.1,t:=(Re.ua s).2.2.2 } v' w'/\iV B w w':=by
 obtain⟨re,rno,rgen,rk,rl,rs,rt,rdata,rents,rn⟩:=r;have HH:Hid (Rs n0 B w0 ⟨re,rno,rgen,rk,rl,rs,rt,rdata,rents,rn⟩ v w):=h;clear h;go_enter Tryz.func119,Tryz.ntmps119;go_wp2_with fail;refine (vr s _).mono ?_;rintro e w1 ⟨rfl,hb1⟩;have HH1:Hid (Rs n0 B w0 ⟨re,rno,rgen,rk,rl,rs,rt,rdata,rents,rn⟩ v w1/\iV B w w1):=⟨HH.out.step hb1,iV.pK hb1⟩;obtain⟨c0,c1,c2,c3,c4,c5,c6,c7,c8,c9⟩:=dK HH1.out.1.box;have hlt:=dC HH1.out.1.box;have hfz:=λj=>HH1.out.1.frozen j
 clear hb1;go_wp2
 go_end0
 have hp:=HH1.out.1.put (r':={ (⟨re,rno,rgen,rk,rl,rs,rt,rdata,rents,rn⟩:gw)with k:=(Re.ua s).1,l:=(Re.ua s).2.1,s:=(Re.ua s).2.2.1,t:=(Re.ua s).2.2.2 }) (cQ (cQ (cQ (eH w1 B 3 (.int .i64 (Re.ua s).1)) (eH _ B 4 (.int .i64 (Re.ua s).2.1))) (eH _ B 5 (.int .i64 (Re.ua s).2.2.1))) (eH _ B 6 (.int .i64 (Re.ua s).2.2.2))) (by simp[World.setCell,Array.getElem?_modify,HH1.out.1.box]) rfl;exact⟨rfl,v,hp.1,HH1.out.2.trans hp.2⟩
theorem pY (W:World)(g:Nat)(hg:g=W.1.size)(a b c d:Value) (T:TypeId):∀ j u,[a,b,c,d][j]?=some u->(W.alloc (.cells #[a,b,c,d] T)).cell? ((⟨g,0,none⟩:Addr).add j)=some u:=by
 subst hg;intro j u f;rw[Go.WideShapes.add_plain]
 match j,f with
 | 0,f=>simp at f;subst f;simp
 | 1,f=>simp at f;subst f;simp
 | 2,f=>simp at f;subst f;simp
 | 3,f=>simp at f;subst f;simp
theorem Ek {n0 B:Nat}{w0 w w1:World}{r:gw}{v:Value}{x:eA}{o:Obj}{g cap:Nat} (h:Rs n0 B w0 r v w)
    (hown:w1.ownsRow n0 116 4 (.slice (some ⟨g,0,none⟩) (r.cE.length+1) cap) (r.cE.length+1) (EE.flat r.cE++[.string x.1,.int .i64 x.2.1,.int .i64 x.2.2.1,.int .i64 x.2.2.2]))(hgrow:(w.alloc o).grownBy w1 v.ownBlock) :
    w1.cell? ⟨B,8,none⟩=some v/\w1.frozen? ⟨B,8,none⟩=false/\B<w1.1.size/\Hid (Rs n0 B w0 { r with cE:=r.cE++[x] } (.slice (some ⟨g,0,none⟩) (r.cE.length+1) cap) (w1.setCell ⟨B,8,none⟩ (.slice (some ⟨g,0,none⟩) (r.cE.length+1) cap))/\iV B w (w1.setCell ⟨B,8,none⟩ (.slice (some ⟨g,0,none⟩) (r.cE.length+1) cap))):=by
  have b:(w.alloc o).1[B]?=some (BR r v):=(ML w o B (dC h.box)).trans h.box;have a:w1.1[B]?=some (BR r v):=(hgrow.block B (dC b) (not_row b (by decide) (h.row.alloc o))).trans b;refine⟨(dK a).2.2.2.2.2.2.2.2.1,by simp[World.frozen?,a],dC a,⟨by simp[World.setCell,Array.getElem?_modify,a],?_,?_,h.base,h.start⟩,?_,?_⟩
  · have e : EE.flat (r.cE++[x])=EE.flat r.cE++[.string x.1,.int .i64 x.2.1,.int .i64 x.2.2.1,.int .i64 x.2.2.2] := by rw[EE.fo];rfl
    refine World.ownsRow.kept (w:=w1) ?_ (eH w1 B 8 _) (.inr (not_row a (by decide) hown).symm);show w1.ownsRow n0 116 4 _ (r.cE++[x]).length (EE.flat (r.cE++[x]));rw[e,MW];exact hown
  · have c := h.below.size
    have f:=h.start;exact ((h.below.alloc (MS f c) _).grown hgrow (by simp;omega) (λg m=>(h.row.lt g m).1)).setCell (p:=⟨B,8,none⟩) h.base _
  · have c := hgrow.size
    simp[World.setCell]at c |-;omega
  · intro k i t j l d
    have c:w1.1[k]?=some (.cells i t (0,0)):=App.gJ (h.row.alloc o) hgrow ((ML w o k (dC d)).trans d) j;exact (MM _ _ _ k (λe=>l e)).trans c
theorem wv (n0 B:Nat)(w0:World)(r:gw)(v:Value)(s:ByteArray)(w:World)(h:Rs n0 B w0 r v w)(hs:s.size<=65535)(hl:r.cE.length<=1000000):Calls Tryz.prog 122 #[.string s,.pointer (some ⟨B,0,none⟩)] w λe w'=>e=.returned (.tuple #[])/\∃ v',Rs n0 B w0 { r with cE:=r.cE++[Re.jr s] } v' w'/\iV B w w':=by
 obtain⟨u,i,f,y,z,C,D,c,b,E⟩:=r;have m:Hid (Rs n0 B w0 ⟨u,i,f,y,z,C,D,c,b,E⟩ v w):=h;clear h;have G:b.length<=1000000:=hl;clear hl;obtain⟨N,O,n,o,p⟩:=NQ Ik;have R:=(dK m.out.box).2.2.2.2.2.2.2.2.1;have H:=dC m.out.box;obtain⟨x,q⟩:=qE (Re.jr s);have I:Hid (Re.jr s=x):=q;rw[q];clear q;go_enter Tryz.func122,Tryz.ntmps122;go_wp2
 go_region_law (first
  | (go_simp;go_at_call 123;refine (Et s _ hs).mono ?_;rintro e j ⟨rfl,k⟩;rw[I.out];have J:=m.out.drew.step k;have K:iV B w j:=iV.pK (w:=w.drew) k;have a:Hid (Rs n0 B w0 ⟨u,i,f,y,z,C,D,c,b,E⟩ v j/\iV B w j):=⟨J,K⟩;have L:=(dK a.out.1.box).2.2.2.2.2.2.2.2.1;have t:=dC a.out.1.box)
  | (have M:=a;refine step_append_lies _ rfl (.tmp 4) (.tmp 7) 60 rfl n0 116 N (.agg #[.string ⟨#[]⟩,.int .i64 0,.int .i64 0,.int .i64 0]) 4 40 Tryz.underlying60 O n o p rfl (by decide) _ b.length _ (by simp[Act.eval]) (a.out.1.row.alloc _) ⟨j.1.size,0,none⟩ 1 1 [.string x.1,.int .i64 x.2.1,.int .i64 x.2.2.1,.int .i64 x.2.2.2] (by simp[Act.eval]) rfl (pY _ _ rfl _ _ _ _ _) (EE.one x) (by decide) (by unfold maxLen;omega) (by omega) (by have:=a.out.1.below.size;have:=a.out.1.start;simp;omega) (j.1.size+1) (by simp) ?_;intro S P T g d Q F;obtain⟨U,V,W,l⟩:=Ek (x:=x) a.out.1 g d))
 all_goals
  go_wp2
  go_end0
  first | exact⟨rfl,_,l.out.1,a.out.2.trans l.out.2⟩ | exact⟨rfl,⟨_,l.out.1⟩,a.out.2.trans l.out.2⟩
theorem Fb {base:Nat}{w:World}{v:Value}{l:List ByteArray}(h:w.ownsRow base 9 1 v l.length (l.map Value.string)):∃ ao cap,v=.slice ao l.length cap/\l.length<=maxLen/\∀ (i:Nat) (s:ByteArray),l[i]?=some s->∃ (g:Nat) (o:Array Value),ao=some ⟨g,0,none⟩/\w.1[g]?=some (.cells o 9 (0,0))/\o[i]?=some (Value.string s):=by
 rcases h.2 with⟨rfl,f⟩ | ⟨g,cap,c,rfl,j,k,m,n,p,a⟩
 ·obtain rfl := MX f
  exact⟨none,0,rfl,MV _,λi s d=>by simp at d⟩
 ·refine⟨_,cap,rfl,by omega,λi s d => ⟨g,c,rfl,k,?_⟩⟩
  have b:(l.map Value.string)[i]?=some (Value.string s):=by simp[d]
  rw[<-a,List.getElem?_take]at b;split at b
  ·rw[<-Nw];exact b
  ·cases b
theorem BM {α:Type}(f:α->ByteArray->α)(a:α)(l:List ByteArray)(k:Nat)(s:ByteArray)(h:l[k]?=some s):(l.take (k+1)).foldl f a=f ((l.take k).foldl f a) s:=by
 obtain⟨b,rfl⟩:=MN.1 h;rw[Np b,List.foldl_append];rfl
def KG (n0 B:Nat) (w0:World) (F:Nat) (st:gw->ByteArray->gw):Prop:=(∀ r s,(st r s).cE.length<=r.cE.length+1) /\
 (∀ (s:ByteArray) (w:World),(callFunc F #[.string s,.pointer (some ⟨B,0,none⟩)]).run Tryz.prog w=.ok (.enter F #[.string s,.pointer (some ⟨B,0,none⟩)]) w) /\
 ∀ (r:gw) (v:Value) (s:ByteArray) (w:World),Rs n0 B w0 r v w->s.size<=65535->r.cE.length<=1000000->Calls Tryz.prog F #[.string s,.pointer (some ⟨B,0,none⟩)] w λe w'=>e=.returned (.tuple #[])/\∃ v',Rs n0 B w0 (st r s) v' w'/\iV B w w'
theorem kL {F:Nat}{st:gw->ByteArray->gw}(n0 B)(w0)(hC:KG n0 B w0 F st)(N)(hN:N<=500000)(r:gw)(v fv)(l)(tag)(w)(hr:Rs n0 B w0 r v w)(hl0:r.cE.length<=N)(hf:cT w.1.size w fv l)(hlen:l.length<=N)(hsm:∀ x∈l,x.2.size<=65535) :
  Calls Tryz.prog 114 #[fv,.int .i64 tag,.func (Fn.func F) #[] #[.pointer (some ⟨B,0,none⟩)]] w λe w'=>e=.returned (.tuple #[])/\∃ v',Rs n0 B w0 ((Pl.dj l tag).foldl st r) v' w'/\iV B w w':=by
 obtain⟨A,t⟩:=qE (Pl.dj l tag);have W:=hH t;have H:Hid (∀ s∈A,s.size<=65535):=by
  intro s d;rw[<-t]at d;unfold Pl.dj at d;obtain⟨x,G,rfl⟩:=NI.1 d;exact hsm x (NK.1 G).1
 have I:A.length<=N:=by
  rw[<-t];unfold Pl.dj;rw[M8];exact MS (OH _ _) hlen
 rw[t];have X:=hH hr;have J:=hH hf;have K:=hH hC;clear t hr hf hsm hC;go_enter Tryz.func114,Tryz.ntmps114;go_wp2_with fail;refine (IZ fv l tag _ J qo).mono ?_;rintro e h ⟨r1,rfl,b,f⟩;rw[W.out]at b;obtain⟨ao,aa,rfl,R,G⟩:=Fb b;unfold maxLen at R;obtain⟨z,O⟩:=qE A.length;rw[O]at R I |-;have Q:=hH O;have Y:=hH G;have c:Hid (Rs n0 B w0 r v h/\iV B w h):=⟨X.step f,iV.pK f⟩;clear b f G O;go_wp2_with fail;go_loopw [12] (λi wr=>∃ k:Nat,k<=z/\i=.int .i64 k/\Hid (∃ v',Rs n0 B w0 ((A.take k).foldl st r) v' wr/\iV B h wr)/\((A.take k).foldl st r).cE.length<=N+k) (λi _=>z-(intOf i).toNat)
 case atStart=>exact⟨0,MV _,rfl,⟨v,c.out.1,iV.refl _ _⟩,by simpa using hl0⟩
 case round =>
  obtain⟨k,hk,rfl,S,u⟩:=hrel;obtain⟨v',y,C⟩:=S.out;have a:Hid (Rs n0 B w0 ((A.take k).foldl st r) v' wr/\iV B h wr):=⟨y,C⟩;clear S y C
  by_cases hlt:k<z
  ·obtain⟨s,d⟩ : ∃ s,A[k]?=some s := ⟨_,MF (by rw[Q.out];exact hlt)⟩
   have Z:=hH<|H.out s (MG d);have m:=hH<|BM st r A k s d;have L:Hid ((st ((A.take k).foldl st r) s).cE.length<=N+(k+1)):=by have:=K.out.1 ((A.take k).foldl st r) s;show (st ((A.take k).foldl st r) s).cE.length<=_;omega
   have M:=hH<|show ((A.take k).foldl st r).cE.length<=1000000 by omega
   obtain⟨g,o,rfl,P,T⟩:=Y.out k s d;have n:=a.out.2.2 g o 9 qd (by intro e;subst e;have h1:=c.out.1.box.symm.trans P;simp at h1) P;have c0:wr.cell? ⟨g,k,none⟩=some (.string s):=by simp only[World.cell?,n];exact T
   have p:(k:Int)<(z:Int):=qo
   clear d P T n u;go_wp2_with fail;rw[K.out.2.1,Oper.upon_enter];refine (K.out.2.2 _ v' s _ a.out.1 Z M).mono ?_;rintro e U ⟨rfl,V,D,E⟩;have q:Hid (Rs n0 B w0 ((A.take (k+1)).foldl st r) V U/\iV B h U):=⟨by rw[m.out];exact D,a.out.2.trans E⟩;clear D E c0;go_wp2
   go_roundw
   case rel=>exact⟨k+1,qo,by go_num,⟨V,q.out.1,q.out.2⟩,by rw[m.out];exact L⟩
   case measure=>simp[intOf];omega
  ·obtain rfl : k=z := by omega
   have p:¬ (k:Int)<(k:Int):=qo
   have HT:=hH<|MY (by rw[Q.out];exact MI _);rw[HT.out]at a;clear u;go_wp2
   go_end0
   first | exact⟨rfl,v',a.out.1,c.out.2.trans a.out.2⟩ | exact⟨rfl,⟨v',a.out.1⟩,c.out.2.trans a.out.2⟩
def Re.tp (r:gw) (s:ByteArray):gw:={ r with e:=Pl.de s }
theorem Re.IX (r:gw)(s):(Re.tp r s).cE.length<=r.cE.length+1:=by simp[Re.tp]
theorem F6 (n0 B)(w0):KG n0 B w0 115 Re.tp:=⟨Re.IX,λs w=>(by go_simp),λr v s w h a b=>by first | exact vZ n0 B w0 r v s w h a b | exact vZ n0 B w0 r v s w h a⟩
def Re.vI (r:gw) (s:ByteArray):gw:={ r with no:=jR s,gen:=iC s }
theorem Re.I6 (r:gw)(s):(Re.vI r s).cE.length<=r.cE.length+1:=by simp[Re.vI]
theorem FG (n0 B)(w0):KG n0 B w0 117 Re.vI:=⟨Re.I6,λs w=>(by go_simp),λr v s w h a b=>by first | exact wU n0 B w0 r v s w h a b | exact wU n0 B w0 r v s w h a⟩
def Re.xM (r:gw) (s:ByteArray):gw:={ r with k:=(Re.ua s).1,l:=(Re.ua s).2.1,s:=(Re.ua s).2.2.1,t:=(Re.ua s).2.2.2 }
theorem Re.JG (r:gw)(s):(Re.xM r s).cE.length<=r.cE.length+1:=by simp[Re.xM]
theorem FR (n0 B)(w0):KG n0 B w0 119 Re.xM:=⟨Re.JG,λs w=>(by go_simp),λr v s w h a b=>by first | exact wK n0 B w0 r v s w h a b | exact wK n0 B w0 r v s w h a⟩
def Re.AV (r:gw) (s:ByteArray):gw:={ r with data:=s }
theorem Re.IN (r:gw)(s):(Re.AV r s).cE.length<=r.cE.length+1:=by simp[Re.AV]
theorem Ii (n0 B)(w0):KG n0 B w0 121 Re.AV:=⟨Re.IN,λs w=>(by go_simp),λr v s w h a b=>by first | exact wm n0 B w0 r v s w h a b | exact wm n0 B w0 r v s w h a⟩
def Re.Fm (r:gw) (s:ByteArray):gw:={ r with cE:=r.cE++[Re.jr s] }
theorem Re.Iy (r:gw)(s):(Re.Fm r s).cE.length<=r.cE.length+1:=by simp[Re.Fm]
theorem Ia (n0 B)(w0):KG n0 B w0 122 Re.Fm:=⟨Re.Iy,λs w=>(by go_simp),λr v s w h a b=>by first | exact wv n0 B w0 r v s w h a b | exact wv n0 B w0 r v s w h a⟩
def Re.JV (r:gw) (s:ByteArray):gw:={ r with n:=Pl.de s }
theorem Re.IU (r:gw)(s):(Re.JV r s).cE.length<=r.cE.length+1:=by simp[Re.JV]
theorem Hp (n0 B)(w0):KG n0 B w0 124 Re.JV:=⟨Re.IU,λs w=>(by go_simp),λr v s w h a b=>by first | exact xq n0 B w0 r v s w h a b | exact xq n0 B w0 r v s w h a⟩
theorem FM:(Tryz.prog.info? 134).map (λi=>(i.zero,i.size,i.bytes))=some (some (.agg #[.int .i64 0,.string ⟨#[]⟩]),2,24):=qk
theorem ob (n size)(w)(hn:n<=9223372036854775807):Calls Tryz.prog 96 #[.int .i64 n,.int .i64 size] w λe w'=>e=.returned (.string (Pl.cW n size))/\Bw w w':=by
 go_enter Tryz.func96,Tryz.ntmps96;go_wp2_with fail;refine (xV n size _ hn).mono ?_;rintro e b ⟨rfl,a⟩;go_wp2;go_ret;exact⟨rfl,a⟩
theorem iq (no gen)(w)(hn:no<=9223372036854775807)(hg:gen<=9223372036854775807):Calls Tryz.prog 97 #[VH no gen] w λe w'=>e=.returned (.string (ek no gen))/\Bw w w':=by
 have s:=fj no 1;have t:=fj gen 6;obtain⟨k,c⟩:=qE (Pl.cW no 1);obtain⟨m,d⟩:=qE (Pl.cW gen 6);have u:=hH<|show ek no gen=k++m by rw[<-c,<-d];rfl
 rw[c]at s;rw[d]at t;have v:¬ 9223372036854775807<k.size+m.size:=qo
 obtain⟨W,h⟩:=qF (w.alloc (BH no gen));have f:W.1[w.1.size]?=some (BH no gen):=by rw[h];exact MD w _
 have g:Hid _:=qB h;obtain⟨o,q⟩:=cU f;have y:=λp:jy W=>p.cell o
 have z:=λp:jy W=>p.cell q
 have i:Hid (∀ V,Calls Tryz.prog 96 #[.int .i64 no,.int .i64 1] V λe w'=>e=.returned (.string k)/\Bw V w'):=λV=>by rw[<-c];exact ob no 1 V hn
 have j:Hid (∀ V,Calls Tryz.prog 96 #[.int .i64 gen,.int .i64 6] V λe w'=>e=.returned (.string m)/\Bw V w'):=λV=>by rw[<-d];exact ob gen 6 V hg
 have n:=ki W;clear c d f o q hn hg;go_enter Tryz.func97,Tryz.ntmps97;go_wp2_with fail;rw[<-h];clear h;refine fK qk qk ?_
 repeat (go_big_quiet_step (first
  | (go_at_call_of 96 (Value.int .i64 6);with_reducible refine fN (jy.grown _) (j.out _))
  | (go_at_call 96;with_reducible refine fN (jy.grown _) (i.out _))))
 rintro A ⟨r,rfl⟩;have x:=hH<|g.out.trans (r.below.mono g.size);go_wp2;go_ret;rw[u.out];exact⟨rfl,x⟩
structure St (n0 b:Nat) (l:List (Int × ByteArray)) (w0:World) (v:Value) (w:World):Prop where
 box:Boxed w b 101 v
 row:w.ownsRow n0 134 2 v l.length (cellsOf l)
 below:Below n0 w0 w
 base:n0<=b
 start:n0<=w0.1.size
theorem St.step {n0 b:Nat}{l:List (Int × ByteArray)}{w0 w w':World}{v:Value}(h:St n0 b l w0 v w)(hb:Bw w w'):St n0 b l w0 v w' :=
 ⟨dI h.box hb,h.row.kept (cP hb none) (Classical.em _),h.below.trans (hb.mono (MS h.start h.below.size)),h.base,h.start⟩
theorem St.fields {n0 b:Nat}{l:List (Int × ByteArray)}{w0 w:World}{v:Value}(h:St n0 b l w0 v w):cT w.1.size w v l:=cT.sj h.row
def nU (b:Nat) (w w':World):Prop:=∀ B o t,t≠134->B≠b->w.1[B]?=some (.cells o t (0,0))->w'.1[B]?=some (.cells o t (0,0))
theorem added {n0 b:Nat}{l:List (Int × ByteArray)}{w0 w w1:World}{v v1:Value}{tag:Int}{s:ByteArray}{o:Obj}(h:St n0 b l w0 v w)(hown:w1.ownsRow n0 134 2 v1 (l.length+1) (cellsOf l++[.int .i64 tag,.string s]))(hgrow:(w.alloc o).grownBy w1 v.ownBlock) :
    ∃ g cap,v1=.slice (some ⟨g,0,none⟩) (l.length+1) cap/\w1.cell? ⟨b,0,none⟩=some v/\w1.frozen? ⟨b,0,none⟩=false/\b<w1.1.size/\Hid (St n0 b (l++[(tag,s)]) w0 v1 (w1.setCell ⟨b,0,none⟩ v1)/\nU b w (w1.setCell ⟨b,0,none⟩ v1)):=by
  obtain⟨k,c,i⟩:=ownsRow_succ hown;have a:=(h.box.alloc _).kept hgrow ((h.box.alloc o).not_row qd (h.row.alloc o));refine⟨k,c,i,a.cell,a.frozen,a.lt,⟨a.set _,?_,?_,h.base,h.start⟩,?_⟩
  · refine World.ownsRow.kept (w := w1) ?_ (grownBy_setCell' w1 b _) (.inr (a.not_row qd hown).symm)
    rw[fz,MW];exact hown
  · have f := h.below.size
    have j:=h.start;exact ((h.below.alloc (MS j f) _).grown hgrow qt (λg r=>(h.row.lt g r).1)).setCell (p:=⟨b,0,none⟩) h.base _
  · intro B m t n q d
    have f:=App.gJ (h.row.alloc o) hgrow ((ML w o B (dC d)).trans d) n;exact (MM _ _ _ B (λe=>q e)).trans f
theorem gr (there)(tag)(s)(n0 b)(l)(w0)(v)(w)(h:St n0 b l w0 v w)(hl:l.length<=1000) :
  Calls Tryz.prog 95 #[.bool there,.int .i64 tag,.string s,.pointer (some ⟨b,0,none⟩)] w λe w'=>e=.returned (.tuple #[])/\∃ v',St n0 b (l++opt there (tag,s)) w0 v' w'/\nU b w w':=by
 cases there with
 | false =>
  have f:Hid (l++opt false (tag,s)=l):=by simp[Hid,opt]
  rw[f.out];go_enter Tryz.func95,Tryz.ntmps95;go_wp2
  go_end0
  exact⟨rfl,v,h,λ_ _ _ _ _ q=>q⟩
 | true =>
  have f:Hid (l++opt true (tag,s)=l++[(tag,s)]):=by simp[Hid,opt]
  rw[f.out];obtain⟨n,o,g,i,j⟩:=NQ FM;have r:=h.box.cell;have m:=h.box.lt;have d:=hH h;clear h;go_enter Tryz.func95,Tryz.ntmps95
  go_wp2_with (at_builtin;refine OP _ rfl (.tmp 8) (.tmp 12) 101 rfl n0 134 n (.agg #[.int .i64 0,.string ⟨#[]⟩]) 2 24 Tryz.underlying101 o g i j rfl qd _ _ _ rfl (d.row.alloc _) ⟨w.1.size,0,none⟩ 1 1 [.int .i64 tag,.string s] rfl rfl (App.my _ _ rfl _ _ _) (App.Bn _ _) (by unfold maxLen;omega) (by omega) (by have:=d.out.below.size;have:=d.out.start;simp;omega) ?_;intro t u c a _;obtain⟨x,k,rfl,y,z,A,p⟩:=added d.out c a;clear c a)
  go_end0
  exact⟨rfl,_,p⟩
theorem yE (k l s t)(w)(hs:s<=9223372036854775807)(ht:t<=9223372036854775807)(hk:k<=9223372036854775807)(hl:l<=9223372036854775807):Calls Tryz.prog 98 #[VA k l s t] w λe w'=>e=.returned (.string (At.db k l s t))/\Bw w w':=by
 go_enter Tryz.func98,Tryz.ntmps98;go_wp2_with fail;refine (D1 k l s t _ hs ht hk hl).mono ?_;rintro e b ⟨rfl,c⟩;have a:=hH<|(qG _ _).trans (c.mono qs);go_wp2;go_ret;exact⟨rfl,a⟩
theorem vN (x)(w)(hc:x.2.1<=9223372036854775807)(hn:x.2.2.1<=9223372036854775807)(hg:x.2.2.2<=9223372036854775807)(hs:x.1.size<=65535):Calls Tryz.prog 99 #[VE x] w λe w'=>e=.returned (.string (Re.ig x))/\Bw w w':=by
 have r:=fj x.2.1 6;have s:=oH x.2.2.1 x.2.2.2;obtain⟨f,a⟩:=qE (Pl.cW x.2.1 6);obtain⟨g,b⟩:=qE (ek x.2.2.1 x.2.2.2);have t:=hH<|show Re.ig x=f++g++x.1 by rw[<-a,<-b];rfl
 rw[a]at r;rw[b]at s;have u:¬ 9223372036854775807<f.size+g.size:=qo
 have v:¬ 9223372036854775807<f.size+g.size+x.1.size:=qo
 obtain⟨W,h⟩:=qF (w.alloc (BE x));have c:W.1[w.1.size]?=some (BE x):=by rw[h];exact MD w _
 have d:Hid _:=qB h;obtain⟨l,m,n,o⟩:=lS c;have z:=λp:jy W=>p.cell l
 have A:=λp:jy W=>p.cell m
 have B:=λp:jy W=>p.cell n
 have C:=λp:jy W=>p.cell o
 have i:Hid (∀ V,Calls Tryz.prog 96 #[.int .i64 x.2.1,.int .i64 6] V λe w'=>e=.returned (.string f)/\Bw V w'):=λV=>by rw[<-a];exact ob x.2.1 6 V hc
 have j:Hid (∀ V,Calls Tryz.prog 97 #[VH x.2.2.1 x.2.2.2] V λe w'=>e=.returned (.string g)/\Bw V w'):=λV=>by rw[<-b];exact iq _ _ V hn hg
 have k:=ki W;clear a b c l m n o hn hg hc;go_enter Tryz.func99,Tryz.ntmps99;go_wp2_with fail;rw[<-h];clear h;refine fK qk qk ?_
 repeat (go_big_quiet_step (first
  | (go_at_call 96;with_reducible refine fN (jy.grown _) (i.out _))
  | (go_at_call 97;with_reducible refine fN (jy.grown _) (j.out _))))
 rintro D ⟨q,rfl⟩;have y:=hH<|d.out.trans (q.below.mono d.size);go_wp2;go_ret;rw[t.out];exact⟨rfl,y⟩
def Fr (A n0 b:Nat) (r:gw) (u:Value) (l:List (Int × ByteArray)) (w0:World) (v:Value) (w:World):Prop:=w.1[A]?=some (BR r u)/\St n0 b l w0 v w
theorem Fr.step {A n0 b:Nat}{r:gw}{u:Value}{l:List (Int × ByteArray)}{w0 w w':World}{v:Value}(h:Fr A n0 b r u l w0 v w)(hb:Bw w w'):Fr A n0 b r u l w0 v w':=⟨dI h.1 hb,h.2.step hb⟩
theorem Fr.drew {A n0 b:Nat}{r:gw}{u:Value}{l:List (Int × ByteArray)}{w0 w:World}{v:Value}(h:Fr A n0 b r u l w0 v w):Fr A n0 b r u l w0 v w.drew:=⟨h.1,⟨h.2.box,h.2.row,h.2.below.drew,h.2.base,h.2.start⟩⟩
theorem qj (no gen)(w):(binOp .neq 57 (VH no gen) (VH 0 0)).run Tryz.prog w=.ok (.bool (vG no gen)) w:=by
 unfold vG
 cases h1:(no==0) <;> cases h2:(gen==0) <;> go_simp <;> simp[h1,h2]
theorem Fw (k l s t)(w):(binOp .neq 59 (VA k l s t) (VA 0 0 0 0)).run Tryz.prog w=.ok (.bool (Re.JC k l s t)) w:=by
 unfold Re.JC
 cases h1:(k==0) <;> cases h2:(l==0) <;> cases h3:(s==0) <;> cases h4:(t==0) <;> go_simp <;> simp[h1,h2,h3,h4]
theorem nv {A i j:Nat}{x y:Value}{o:Obj}{w w':World}(h:w.cell? ⟨A,i,none⟩=some x/\w.cell? ⟨A,j,none⟩=some y/\w.1[A]?=some o)(hb:Bw w w') :
 w'.cell? ⟨A,i,none⟩=some x/\w'.cell? ⟨A,j,none⟩=some y/\w'.1[A]?=some o:=⟨cC h.1 hb,cC h.2.1 hb,dI h.2.2 hb⟩
theorem m9 {A b i j:Nat}{x y:Value}{r:gw}{u:Value}{w w':World}(hne:A≠b)(h:w.cell? ⟨A,i,none⟩=some x/\w.cell? ⟨A,j,none⟩=some y/\w.1[A]?=some (BR r u))(ho:nU b w w') :
  w'.cell? ⟨A,i,none⟩=some x/\w'.cell? ⟨A,j,none⟩=some y/\w'.1[A]?=some (BR r u):=by
 have a:=ho A _ _ qd hne h.2.2;have e:=a.trans h.2.2.symm;exact⟨by simp only[World.cell?,e];exact h.1,by simp only[World.cell?,e];exact h.2.1,a⟩
theorem zu {A:Nat}{x0 x1 x2 x3:Value}{o:Obj}{w w':World}(h:w.cell? ⟨A,3,none⟩=some x0/\w.cell? ⟨A,4,none⟩=some x1/\w.cell? ⟨A,5,none⟩=some x2/\w.cell? ⟨A,6,none⟩=some x3/\w.1[A]?=some o)(hb:Bw w w') :
 w'.cell? ⟨A,3,none⟩=some x0/\w'.cell? ⟨A,4,none⟩=some x1/\w'.cell? ⟨A,5,none⟩=some x2/\w'.cell? ⟨A,6,none⟩=some x3/\w'.1[A]?=some o:=⟨cC h.1 hb,cC h.2.1 hb,cC h.2.2.1 hb,cC h.2.2.2.1 hb,dI h.2.2.2.2 hb⟩
theorem ym {A b:Nat}{x0 x1 x2 x3:Value}{r:gw}{u:Value}{w w':World}(hne:A≠b)(h:w.cell? ⟨A,3,none⟩=some x0/\w.cell? ⟨A,4,none⟩=some x1/\w.cell? ⟨A,5,none⟩=some x2/\w.cell? ⟨A,6,none⟩=some x3/\w.1[A]?=some (BR r u))(ho:nU b w w') :
  w'.cell? ⟨A,3,none⟩=some x0/\w'.cell? ⟨A,4,none⟩=some x1/\w'.cell? ⟨A,5,none⟩=some x2/\w'.cell? ⟨A,6,none⟩=some x3/\w'.1[A]?=some (BR r u):=by
 have a:=ho A _ _ qd hne h.2.2.2.2;have e:=a.trans h.2.2.2.2.symm;exact⟨by simp only[World.cell?,e];exact h.1,by simp only[World.cell?,e];exact h.2.1,by simp only[World.cell?,e];exact h.2.2.1,by simp only[World.cell?,e];exact h.2.2.2.1,a⟩
theorem jw (l)(b)(y:Int × ByteArray):(l++opt b y).length<=l.length+1:=by
 unfold opt
 cases b <;> simp
theorem lens (r:gw):([]:List (Int × ByteArray)).length<=1000/\(Re.f1 r).length<=1000/\(Re.f2 r).length<=1000/\(Re.f3 r).length<=1000/\(Re.f4 r).length<=4:=by
 have a:(Re.f1 r).length<=0+1:=jw [] _ _;have b:(Re.f2 r).length<=(Re.f1 r).length+1:=jw _ _ _;have c:(Re.f3 r).length<=(Re.f2 r).length+1:=jw _ _ _;have d:(Re.f4 r).length<=(Re.f3 r).length+1:=jw _ _ _;simp only[List.length_nil];omega
theorem IP {l:List eA}{k:Nat}{x:eA}(h:l[k]?=some x):Re.ef (l.take (k+1))=Re.ef (l.take k)++opt true (5,Re.ig x):=by
 obtain⟨a,rfl⟩:=MN.1 h;rw[Np a];unfold Re.ef opt;rw[NO];rfl
theorem o6 (r : gw) (u : Value) (w : World) (hr : Re.dN r) (hv : ey EE w u r.cE) :
    Calls Tryz.prog 60 #[VR r u] w λe w'=>∃ v,e = .returned v/\cT w'.heap.size w' v (Re.fields r)/\Below w.heap.size w w':=by
  have HH:Hid (r.no<=9223372036854775807/\r.gen<=9223372036854775807):=by
    obtain ⟨-,⟨⟨-,h1⟩,-,h2⟩,-⟩:=hr
    exact ⟨by omega,by omega⟩
  have HN:Hid (r.e<=9223372036854775807/\r.n<=9223372036854775807):=by
    obtain ⟨⟨-,h1⟩,-,-,-,-,-,h2⟩:=hr
    exact ⟨by omega,by omega⟩
  have HT:Hid ((r.s<=9223372036854775807/\r.t<=9223372036854775807)/\r.k<=9223372036854775807/\r.l<=9223372036854775807):=by
    have h:=At.cG.1 hr.2.2.1
    unfold At.dN at h
    exact ⟨⟨by omega,by omega⟩,by omega,by omega⟩
  have HM:Hid (r.cE.length<=64/\∀ x∈r.cE,(1<=x.2.1/\x.2.1<=1099511627776)/\Nm.ok x.1/\lN x.2.2.1 x.2.2.2):=⟨hr.2.2.2.2.1.1,Re.ow hr.2.2.2.2.1.2 (Ng 0)⟩
  have hv0:=hv
  obtain ⟨ao,cap,rfl,hm,hx⟩:=hv0.open
  clear hv0 hv hm
  obtain ⟨z,hz⟩:∃ z,r.cE.length = z:=⟨_,rfl⟩
  have hz64:z<=64:=by rw [<-hz];exact HM.out.1
  rw [hz] at |-
  have HZ:Hid (r.cE.length=z):=hz
  have HX:Hid (∀ i x,r.cE[i]?=some x->∃ b off,ao=some ⟨b,off,none⟩/\True/\b<w.1.size/\∀ k u,(EE.cells x)[k]?=some u->w.cell? ⟨b,off+(i*EE.sz+k),none⟩=some u):=hx
  clear hr hz hx
  have HF0:Hid (Fr w.heap.size w.heap.size (w.heap.size + 1) r (.slice ao z cap) [] w (.slice none 0 0) ((w.alloc (BR r (.slice ao z cap))).alloc (.cells #[.slice none 0 0] 101))):=by
    refine ⟨(ML _ _ _ (by simp)).trans (MD w _),?_,NH _ _ _ _,((MJ _ _).alloc (MI _) _).alloc (by simp) _,by omega,MI _⟩
    have:=Boxed.new (w.alloc (BR r (.slice ao z cap))) 101 (.slice none 0 0)
    rw [NV] at this
    exact this
  have HNE:Hid (w.1.size≠w.1.size+1):=by show _≠_;omega
  go_enter Tryz.func60,Tryz.ntmps60
  go_wp2_with fail
  generalize (w.alloc (BR r (.slice ao z cap))).alloc (.cells #[.slice none 0 0] 101) = W at *
  generalize w.heap.size + 1 = b at *
  obtain ⟨A,hA⟩:∃ A,w.heap.size = A:=⟨_,rfl⟩
  rw [hA] at HF0 HNE HX |-
  have HAA:Hid (w.1.size=A):=hA
  clear hA
  have HC0:Hid (W.cell? ⟨A,0,none⟩ = some (.int .i64 r.e)/\W.cell? ⟨A,0,none⟩ = some (.int .i64 r.e)/\W.heap[A]? = some (BR r (.slice ao z cap))):=⟨(dK HF0.out.1).1,(dK HF0.out.1).1,HF0.out.1⟩
  go_region_held3 (λw'=>w'.cell? ⟨A,0,none⟩ = some (.int .i64 r.e)/\w'.cell? ⟨A,0,none⟩ = some (.int .i64 r.e)/\w'.heap[A]? = some (BR r (.slice ao z cap))) (first | exact HC0.out | assumption | exact nv (by assumption) (by assumption) | exact m9 HNE.out (by assumption) (by assumption)) (first
    | (go_at_call 96;refine (ob r.e 2 _ HN.out.1).mono ?_;rintro e x0 ⟨rfl,hb0⟩)
    | (go_at_call 95;refine (gr (r.e != 0) 1 (Pl.cW r.e 2) A b ([]) w (.slice none 0 0) _ (HF0.out.drew.step hb0).2 (lens r).1).mono ?_;rintro e w1 ⟨rfl,v1,hst1,ho1⟩))
  have HF1:Hid (Fr A A b r (.slice ao z cap) (Re.f1 r) w v1 w1):=⟨ho1 A _ _ (by decide) HNE.out (HF0.out.drew.step hb0).1,hst1⟩
  clear hst1 ho1 hb0 HC0 HF0
  go_wp2_with fail
  have HC1:Hid (w1.cell? ⟨A,1,none⟩ = some (.int .i64 r.no)/\w1.cell? ⟨A,2,none⟩ = some (.int .i64 r.gen)/\w1.heap[A]? = some (BR r (.slice ao z cap))):=⟨(dK HF1.out.1).2.1,(dK HF1.out.1).2.2.1,HF1.out.1⟩
  have hng1:∀ w',(binOp .neq 57 (VH r.no r.gen) (VH 0 0)).run Tryz.prog w'=.ok (.bool (vG r.no r.gen)) w':=qj _ _
  go_region_held3 (λw'=>w'.cell? ⟨A,1,none⟩ = some (.int .i64 r.no)/\w'.cell? ⟨A,2,none⟩ = some (.int .i64 r.gen)/\w'.heap[A]? = some (BR r (.slice ao z cap))) (first | exact HC1.out | assumption | exact nv (by assumption) (by assumption) | exact m9 HNE.out (by assumption) (by assumption)) (first
    | (go_at_call 97;refine (iq r.no r.gen _ HH.out.1 HH.out.2).mono ?_;rintro e x1 ⟨rfl,hb1⟩)
    | (go_at_call 95;refine (gr (vG r.no r.gen) 2 (ek r.no r.gen) A b (Re.f1 r) w v1 _ (HF1.out.drew.step hb1).2 (lens r).2.1).mono ?_;rintro e w2 ⟨rfl,v2,hst2,ho2⟩))
  have HF2:Hid (Fr A A b r (.slice ao z cap) (Re.f2 r) w v2 w2):=⟨ho2 A _ _ (by decide) HNE.out (HF1.out.drew.step hb1).1,hst2⟩
  clear hst2 ho2 hb1 HC1 HF1
  clear hng1
  go_wp2_with fail
  have HC2:Hid (w2.cell? ⟨A,3,none⟩ = some (.int .i64 r.k)/\w2.cell? ⟨A,4,none⟩ = some (.int .i64 r.l)/\w2.cell? ⟨A,5,none⟩ = some (.int .i64 r.s)/\w2.cell? ⟨A,6,none⟩ = some (.int .i64 r.t)/\w2.heap[A]? = some (BR r (.slice ao z cap))):=⟨(dK HF2.out.1).2.2.2.1,(dK HF2.out.1).2.2.2.2.1,(dK HF2.out.1).2.2.2.2.2.1,(dK HF2.out.1).2.2.2.2.2.2.1,HF2.out.1⟩
  have hng2:∀ w',(binOp .neq 59 (VA r.k r.l r.s r.t) (VA 0 0 0 0)).run Tryz.prog w'=.ok (.bool (Re.JC r.k r.l r.s r.t)) w':=Fw _ _ _ _
  go_region_held3 (λw'=>w'.cell? ⟨A,3,none⟩ = some (.int .i64 r.k)/\w'.cell? ⟨A,4,none⟩ = some (.int .i64 r.l)/\w'.cell? ⟨A,5,none⟩ = some (.int .i64 r.s)/\w'.cell? ⟨A,6,none⟩ = some (.int .i64 r.t)/\w'.heap[A]? = some (BR r (.slice ao z cap))) (first | exact HC2.out | assumption | exact zu (by assumption) (by assumption) | exact ym HNE.out (by assumption) (by assumption)) (first
    | (go_at_call 98;refine (yE r.k r.l r.s r.t _ HT.out.1.1 HT.out.1.2 HT.out.2.1 HT.out.2.2).mono ?_;rintro e x2 ⟨rfl,hb2⟩)
    | (go_at_call 95;refine (gr (Re.JC r.k r.l r.s r.t) 3 (At.db r.k r.l r.s r.t) A b (Re.f2 r) w v2 _ (HF2.out.drew.step hb2).2 (lens r).2.2.1).mono ?_;rintro e w3 ⟨rfl,v3,hst3,ho3⟩))
  have HF3:Hid (Fr A A b r (.slice ao z cap) (Re.f3 r) w v3 w3):=⟨ho3 A _ _ (by decide) HNE.out (HF2.out.drew.step hb2).1,hst3⟩
  clear hst3 ho3 hb2 HC2 HF2
  clear hng2
  have c3:w3.cell? ⟨A,7,none⟩=some (.string r.data):=(dK HF3.out.1).2.2.2.2.2.2.2.1
  go_wp2_with fail
  refine (gr (!r.data.toList.isEmpty) 4 r.data A b (Re.f3 r) w v3 _ HF3.out.2 (lens r).2.2.2.1).mono ?_
  rintro e w4 ⟨rfl,v4,hst4,ho4⟩
  have HF4:Hid (Fr A A b r (.slice ao z cap) (Re.f4 r) w v4 w4):=⟨ho4 A _ _ (by decide) HNE.out HF3.out.1,hst4⟩
  clear hst4 ho4 c3 HF3
  have c4:w4.cell? ⟨A,8,none⟩=some (.slice ao z cap):=(dK HF4.out.1).2.2.2.2.2.2.2.2.1
  have HL4:Hid ((Re.f4 r).length<=4):=(lens r).2.2.2.2
  go_wp2_with fail
  clear c4
  go_loopw [44] (λi wr=>∃ (k:Nat) (v:Value),k<=z/\i = .int .i64 k/\Hid (Fr A A b r (.slice ao z cap) (Re.f4 r ++ Re.ef (r.cE.take k)) w v wr)) (λi _=>z - (intOf i).toNat)
  case atStart=>exact ⟨0,v4,MV _,rfl,by show Fr A A b r (.slice ao z cap) (Re.f4 r ++ Re.ef (r.cE.take 0)) w v4 w4;simpa [Re.ef] using HF4.out⟩
  case round =>
    obtain ⟨k,v,hk,rfl,HF⟩:=hrel
    by_cases hlt:k < z
    · obtain ⟨x, hxk⟩ : ∃ x, r.cE[k]? = some x := ⟨_, MF (by rw [HZ.out]; exact hlt)⟩
      have HE:Hid (Re.ef (r.cE.take (k+1))=Re.ef (r.cE.take k)++opt true (5,Re.ig x)):=IP hxk
      have HXM:Hid ((1<=x.2.1/\x.2.1<=1099511627776)/\Nm.ok x.1/\lN x.2.2.1 x.2.2.2):=HM.out.2 x (MG hxk)
      have HLK:Hid ((Re.f4 r ++ Re.ef (r.cE.take k)).length<=1000):=by
        have h1:=HL4.out
        show (Re.f4 r ++ Re.ef (r.cE.take k)).length<=1000
        simp only [List.length_append,Re.ef,List.length_map,List.length_take]
        omega
      obtain ⟨bb,off,rfl,-,hB,hcx⟩:=HX.out k x hxk
      obtain ⟨c0,c1,c2,c3⟩:=CN hcx HF.out.2.below hB
      clear hcx hxk
      have hlt':(k:Int) < (z:Int):=by omega
      go_wp2_with fail
      refine (vN x _ (by have:=HXM.out.1;omega) (by have:=HXM.out.2.2.1;omega) (by have:=HXM.out.2.2.2;omega) (by have:=Re.CR HXM.out.2.1;omega)).mono ?_
      rintro e x5 ⟨rfl,hb5⟩
      have HF5:Hid (Fr A A b r (.slice (some ⟨bb,off,none⟩) z cap) (Re.f4 r++Re.ef (r.cE.take k)) w v x5):=(HF.out.step ((MJ _ _).alloc (MI _) _)).step hb5
      clear hb5 c0 c1 c2 c3
      go_wp2_with fail
      refine (gr true 5 (Re.ig x) A b _ w v _ HF5.out.2 HLK.out).mono ?_
      rintro e w6 ⟨rfl,v6,hst6,ho6⟩
      have HF6:Hid (Fr A A b r (.slice (some ⟨bb,off,none⟩) z cap) (Re.f4 r ++ Re.ef (r.cE.take (k + 1))) w v6 w6):=⟨ho6 A _ _ (by decide) HNE.out HF5.out.1,by rw [HE.out,<-Nq];exact hst6⟩
      clear hst6 ho6
      go_wp2
      go_roundw
      case rel=>exact ⟨k + 1,v6,by omega,by go_num,HF6.out⟩
      case measure=>simp [intOf];omega
    · obtain rfl : k = z := by omega
      have HF5:Hid (Fr A A b r (.slice ao k cap) (Re.f5 r) w v wr):=by
        have:=HF.out
        rw [MY (by rw [HZ.out];exact MI _)] at this
        exact this
      have HL5:Hid ((Re.f5 r).length<=1000):=by
        have h1:=HL4.out
        have h2:=HZ.out
        show (Re.f5 r).length<=1000
        simp only [Re.f5,List.length_append,Re.ef,List.length_map]
        omega
      clear HF HF4
      have hlt':¬ (k:Int) < (k:Int):=by omega
      go_wp2_with fail
      have HC5:Hid (wr.cell? ⟨A,9,none⟩ = some (.int .i64 r.n)/\wr.cell? ⟨A,9,none⟩ = some (.int .i64 r.n)/\wr.heap[A]? = some (BR r (.slice ao k cap))):=⟨(dK HF5.out.1).2.2.2.2.2.2.2.2.2,(dK HF5.out.1).2.2.2.2.2.2.2.2.2,HF5.out.1⟩
      go_region_held3 (λw'=>w'.cell? ⟨A,9,none⟩ = some (.int .i64 r.n)/\w'.cell? ⟨A,9,none⟩ = some (.int .i64 r.n)/\w'.heap[A]? = some (BR r (.slice ao k cap))) (first | exact HC5.out | assumption | exact nv (by assumption) (by assumption) | exact m9 HNE.out (by assumption) (by assumption)) (first
        | (go_at_call 96;refine (ob r.n 6 _ HN.out.2).mono ?_;rintro e x5 ⟨rfl,hb5⟩)
        | (go_at_call 95;refine (gr (r.n != 0) 6 (Pl.cW r.n 6) A b (Re.f5 r) w v _ (HF5.out.drew.step hb5).2 HL5.out).mono ?_;rintro e w6 ⟨rfl,v6,hst6,ho6⟩))
      have HF6:Hid (Fr A A b r (.slice ao k cap) (Re.fields r) w v6 w6):=⟨ho6 A _ _ (by decide) HNE.out (HF5.out.drew.step hb5).1,hst6⟩
      clear hst6 ho6 hb5 HC5 HF5
      have c8:=HF6.out.2.box.cell
      go_wp2
      go_ret
      refine ⟨_,rfl,HF6.out.2.fields,?_⟩
      rw [HAA.out]
      exact HF6.out.2.below
end Go.Proofs.YtiifhfmekbhlnaaGreat.Ks.Rs
namespace Go.Proofs.YtiifhfmekbhlnaaGreat.Ks
open ChangeShapes WideShapes ChangeAt RowKit Deep
theorem yX {base:Nat}{W:World}{v:Value}{l:List UInt8}(h:W.ownsRow base 5 1 v l.length (Pl.kY l)):(convert 132 9 v).run Tryz.prog W=.ok (.string (Pl.jA l)) W:=by
 rcases h.2 with⟨rfl,d⟩ | ⟨g,a,f,rfl,j,p,k,m,n,c⟩
 ·obtain rfl := MX d
  exact run_convert_bytes_nil W 132 5 Tryz.underlying132 Tryz.underlying5 0 0 9 Tryz.underlying9
 ·have := mZ W g l.length a (l.map λb => (b.toNat : Int)) qs (λi o => by
   have:=h.cells (g:=g) rfl i (.int .u8 ((l.map λb=>(b.toNat:Int)).getD i 0)) (by simp[Pl.kY,List.getD,o]);rw[Nu,NS]at this;exact this)
  rw[this,List.map_map]
  congr 3
  exact (Pg λb _=>by simp).trans (List.map_id l)
theorem zH (v )(l )(w )(hv : cT w.1.size w v l)(hE : (Pl.encs l).length ≤ 1099511627776) :
  Calls Tryz.prog 49 #[v] w λe w'=>e=.returned (.tuple #[.string (Pl.db l),.int .i64 (Pl.dd 1 l)])/\Bw w w':=by
 rcases hv with⟨ao,N,rfl,rfl⟩ | ⟨b,u,N,rfl,S,hp,O,hm,P⟩
 ·have K : ∀ W : World,(convert 132 9 (.slice none 0 0)).run Tryz.prog W=.ok (.string (Pl.jA [])) W := λW => yX (base := 0) (l := []) (NH _ _ _ _)
  go_enter Tryz.func49,Tryz.ntmps49;go_wp2;refine OV 1 ?_;rw[NR];go_wp2
  go_ret2
  exact⟨rfl,MJ _ _⟩
 ·unfold maxLen at hm
  obtain⟨T,J,D,F,G⟩:=NQ Db;obtain⟨n,Q⟩:=qE l.length;rw[Q]at hp O P |-;have z:=hH Q;have U:=hH P;have V:Hid (∀ k,(Pl.encs (l.take k)).length<=1099511627776):=λk=>MS (Pl.yM l k) hE
  clear Q P hE;go_enter Tryz.func49,Tryz.ntmps49;go_wp2;go_loopw [4,5,10] (λr t i wr=>∃ k:Nat,k<=n/\i=.int .i64 k/\t=.int .i64 (Pl.iI 1 l k)/\Pl.yq 1 l k/\wr.ownsRow w.1.size 5 1 r (Pl.encs (l.take k)).length (Pl.kY (Pl.encs (l.take k)))/\Bw w wr) (λ_ _ i _=>n-(intOf i).toNat)
  case atStart=>exact⟨0,MV _,rfl,rfl,λi J=>absurd J (Nat.not_lt_zero _),NH _ _ _ _,MJ _ _⟩
  case round =>
   obtain⟨k,hk,rfl,rfl,I,d,c⟩:=hrel;have m:=hH I;clear I;have o:=c.size
   by_cases hlt:k<n
   ·obtain⟨c0,c1⟩ := U k hlt
    rw[<-c.cell (p:=⟨b,u+k*2,none⟩) S]at c0;rw[<-c.cell (p:=⟨b,u+k*2+1,none⟩) S]at c1;generalize hf:l.getD k (0,.empty)=f at *;have A:=hH hf;clear hf;obtain⟨t,s⟩:=f;generalize hla:Pl.iI 1 l k=la at *;have q:=hH hla;clear hla
    by_cases h1:t<1
    ·have H : Hid (Pl.db l=Pl.jA [] ∧ Pl.dd 1 l=1) := Pl.qe (by rw[z.out];exact hlt) m q A (by simp[Pl.iH,h1]) qd
     go_wp2
     go_ret2
     rw[H.out.1,H.out.2];exact⟨rfl,c.alloc o _⟩
    by_cases h2:255<t
    ·have H : Hid (Pl.db l=Pl.jA [] ∧ Pl.dd 1 l=1) := Pl.qe (by rw[z.out];exact hlt) m q A (by simp[Pl.iH,h2]) qd
     go_wp2
     go_ret2
     rw[H.out.1,H.out.2];exact⟨rfl,c.alloc o _⟩
    by_cases h3:65535<s.size
    ·have H : Hid (Pl.db l=Pl.jA [] ∧ Pl.dd 1 l=2) := Pl.qe (by rw[z.out];exact hlt) m q A (by simp[Pl.iH,h1,h2,h3]) qd
     go_wp2
     go_ret2
     rw[H.out.1,H.out.2];exact⟨rfl,c.alloc o _⟩
    by_cases h4:t<la
    ·have H : Hid (Pl.db l=Pl.jA [] ∧ Pl.dd 1 l=11) := Pl.qe (by rw[z.out];exact hlt) m q A (by simp[Pl.iH,h1,h2,h3,h4]) qd
     go_wp2
     go_ret2
     rw[H.out.1,H.out.2];exact⟨rfl,c.alloc o _⟩
    have X:=hH<|Pl.Dm m (by rw[q.out,A.out];simp[Pl.iH,h1,h2,h3,h4]);have L:=hH<|Pl.vE (by rw[z.out];exact hlt) A;have Y:=V.out k;have Z:=hH<|Pl.xP t s qo qo qo;generalize Pl.encs (l.take k)=E at *;have y:((wr.alloc (.cells #[.int .i64 t,.string s] 134)).alloc (.cells #[.int .u8 t,.int .u8 ((s.size:Int) / 256),.int .u8 ((s.size:Int) % 256)] 5)).1[wr.1.size]?=some (.cells #[.int .i64 t,.string s] 134 (0,0)):=by
     rw[ML _ _ _ qs];exact MD wr _
    have M:=hH y;clear y;have aa:(s.size:Int)<=65535:=qo
    go_wp2_with (first
     | (at_builtin;refine OP _ rfl (.tmp 33) (.tmp 46) 132 rfl w.1.size 5 T (.int .u8 0) 1 1 Tryz.underlying132 J D F G rfl qd _ _ _ rfl ((d.alloc _).alloc _) ⟨wr.1.size+1,0,none⟩ 3 3 [.int .u8 t,.int .u8 ((s.size:Int) / 256),.int .u8 ((s.size:Int) % 256)] rfl rfl (App.jM _ _ qs _ _ _ _) (App.Mg _ _ _) (by unfold maxLen;omega) qo (by first | omega | (simp;omega)) ?_;intro v1 w1 h a _;have B:=hH<|App.gJ ((d.alloc _).alloc _) a M qd;have q0:=(App.nE B).1;have q1:=(App.nE B).2;have hz:=a.size)
     | (at_builtin;refine App.B3 _ rfl (.tmp 48) (.tmp 50) 132 9 rfl w.1.size 5 T (.int .u8 0) 1 1 Tryz.underlying132 J D F G rfl _ _ _ rfl h _ _ _ rfl (Src.ofString _ Tryz.underlying9 s) (by unfold maxLen;omega) qo (by have:=a.size;simp at this;omega) ?_;intro v2 w2 C j;have q2:=(App.nE (App.gJ h j B qd)).1))
    go_roundw
    case rel =>
     refine⟨k+1,qo,by go_num,by rw[Pl.zt A],X,?_,?_⟩
     ·rw[L.out,Pl.oY,Z]
      have e:(E++Pl.jH (t,s)).length=E.length+3+s.size:=by rw[MW,show (Pl.jH (t,s)).length=3+s.size from Pl.iQ (t,s)];omega
      rw[e];simpa using C
     ·exact (((c.alloc o _).alloc qt _).grown a qt (λg R=>(d.lt g R).1)).grown j (by simp at hz;omega) (λg R=>(h.lt g R).1)
    case measure=>simp[intOf];omega
   ·obtain rfl : k=n := by omega
    have H:=hH<|Pl.Dk (by rw[z.out];exact m);rw[MY (by rw[z.out];exact MI _)]at d;have K:=yX d;go_wp2
    go_ret2
    rw[H.out.1,H.out.2];exact⟨rfl,c⟩
end Go.Proofs.YtiifhfmekbhlnaaGreat.Ks
namespace Go.Proofs.YtiifhfmekbhlnaaGreat.Ks.Rs
open ChangeShapes WideShapes ChangeAt RowKit Deep
open Go.Proofs.YtiifhfmekbhlnaaGreat.Ks.Ak
theorem Re.Gn {r:gw}(h:Re.dN r):Pl.db (Re.fields r)=Re.db r/\Re.dd r=0:=by
 have b:=Re.jE h;have a:=Re.cG.2 h;exact⟨by rw[Pl.db,b.1,MC rfl,Re.db,MC a],by rw[Re.dd,MC a]⟩
theorem sR (r:gw)(u)(w)(hv:ey EE w u r.cE)(hs:∀ x∈r.cE,x.1.size<=maxLen):Calls Tryz.prog 36 #[VR r u] w λe w'=>e=.returned (.tuple #[.string (Re.db r),.int .i64 (Re.dd r)])/\Bw w w':=by
 obtain⟨o,c,rfl,-,-⟩:=(show ey EE w u r.cE from hv).open;have i:=hH hv;have s:=hH hs;obtain⟨z,t⟩:=qE r.cE.length;rw[t]at i |-;clear hv hs t
 by_cases hr:Re.dN r
 ·have v : Hid (Re.dN r) := hr
  have l:=hH<|show (if Re.right r then (0:Int) else 4)=0 by rw[MC (Re.cG.2 hr)]
  have d:=hH<|Re.Gn hr;have y:Hid ((Pl.encs (Re.fields r)).length<=1099511627776):=MS (Re.jE hr).2.2 (by omega);clear hr;go_enter Tryz.func36,Tryz.ntmps36;go_wp2_with fail;refine (mq r _ _ 0 (i.al _) s l).mono ?_;rintro e k ⟨rfl,b⟩;have a:=hH<|(qG _ _).trans (b.mono qs);have m:=hH<|i.out.up a;obtain⟨A,B,C,D,E,F,G,H,I,J⟩:=dK (dI (MD w (BR r (.slice o z c))) b);clear b;go_wp2_with fail;refine (o6 r _ _ v m).mono ?_;rintro e p ⟨K,rfl,g,h⟩;have f:=qJ a h;have n:=hH g;clear h g A B C D E F G H I J;go_wp2_with fail;refine (zH _ _ _ n y).mono ?_;rintro e L ⟨rfl,q⟩;rw[d.out.1];go_wp2
  go_ret2
  rw[d.out.2];exact⟨rfl,f.trans (q.mono f.size)⟩
 ·have j := Re.iy.2 hr
  have l:=hH<|show (if Re.right r then (0:Int) else 4)=4 by rw[j];rfl
  have d:Hid (Re.db r=⟨#[]⟩/\Re.dd r=4):=⟨by simp[Re.db,j],by simp[Re.dd,j]⟩;clear hr j;go_enter Tryz.func36,Tryz.ntmps36;go_wp2_with fail;refine (mq r _ _ 4 (i.al _) s l).mono ?_;rintro e k ⟨rfl,b⟩;have a:=hH<|(qG _ _).trans (b.mono qs);go_wp2
  go_ret2
  rw[d.out.1,d.out.2];exact⟨rfl,a⟩
end Go.Proofs.YtiifhfmekbhlnaaGreat.Ks.Rs
namespace Go.Proofs.YtiifhfmekbhlnaaGreat.Ks
open ChangeShapes WideShapes ChangeAt RowKit Deep
theorem sk {w:World}{base:Nat}{e:TypeId}{size:Nat}{v:Value}{n:Nat}{xs:List Value}(h:w.ownsRow base e size v n xs)(k):(w.drewN k).ownsRow base e size v n xs:=h
theorem xw (S:ByteArray)(a:Nat):(S.extract a S.size).data.toList=S.data.toList.drop a:=by
 rw[Pl.fX,Pl.kb,MY qs]
theorem Ji:(Tryz.prog.info? 134).map (λi=>(i.zero,i.size,i.bytes))=some (some (.agg #[.int .i64 0,.string ⟨#[]⟩]),2,24):=qk
theorem mM (s : ByteArray)(w : World)(hs : s.size ≤ 1048576) :
  Calls Tryz.prog 79 #[.string s] w λe w'=>∃ r,e=.returned (.tuple #[r,.int .i64 (Pl.dX s.data.toList)]) /\
   w'.ownsRow w.1.size 134 2 r (Pl.dA s.data.toList).length (cellsOf (Pl.dA s.data.toList))/\Bw w w':=by
 obtain⟨i0,hi,hz0,hz1,hz2⟩:=NQ Ji;have hsl:s.data.toList.length=s.size:=by simp
 have HM0:Hid (Pl.Mid s.data.toList [] 1 s.data.toList):=Pl.Mid.start _;obtain⟨L,hL⟩:=qE s.data.toList;rw[hL]at hsl |-;have HL:Hid (s.data.toList=L):=hL;have HSL:Hid (L.length=s.size):=hsl;clear hL hsl;go_enter Tryz.func79,Tryz.ntmps79;go_wp2
 go_step3
 go_wp2
 go_step3
 go_wp2;go_loopw [0,4,5] (λz r t wr=>∃ (S:ByteArray) (done:List (Int × ByteArray)) (la:Int),z=.string S/\t=.int .i64 la/\S.size<=1048576/\la<=255/\Pl.Mid L done la S.data.toList /\
   wr.ownsRow w.1.size 134 2 r done.length (cellsOf done)/\Bw w wr) (λz _ _ _=>match z with | .string S=>S.size | _=>0)
 case atStart=>exact⟨s,[],1,rfl,rfl,hs,by omega,by rw[HL.out];exact Pl.Mid.start L,NH _ _ _ _,MJ _ _⟩
 case round =>
  obtain⟨S,done,la,rfl,rfl,hS,hla,hmid,hown,hbl⟩:=hrel;have hsz:=hbl.size;have HM:Hid (Pl.Mid L done la S.data.toList):=hmid;have hdl:done.length<=1048576:=by have:=hmid.1;have:=HSL.out;omega
  have hln:S.data.toList.length=S.size:=by simp
  clear hmid
  by_cases h0:S.size=0
  ·have hnil : S.data.toList=[] := MX (by omega)
   have hem:S.toList.isEmpty=true:=by rw[ND,hnil];rfl
   have H:Hid (Pl.dA L=done/\Pl.dX L=0):=by
    have:=HM.out;rw[hnil]at this;exact this.finish
   clear hnil hln h0;go_wp2;rw[Exit.noGoto_ret]
   go_ret2
   rw[H.out.1,H.out.2];exact⟨_,rfl,hown,hbl⟩
  ·have hnn : S.data.toList≠[] := by
    intro h;rw[h]at hln;simp at hln;omega
   have hne:S.toList.isEmpty=false:=by rw[ND,List.isEmpty_eq_false_iff];exact hnn
   have HNN:Hid (S.data.toList≠[]):=hnn;clear hnn
   by_cases h1:S.size<3
   ·have H : Hid (Pl.dA L=[] ∧ Pl.dX L=10) := HM.out.fail HNN.out (by simp[Pl.gS,hln,h1]) (by decide)
    clear hln;go_wp2;rw[Exit.noGoto_ret]
    go_ret2
    rw[H.out.1,H.out.2];exact⟨_,rfl,NH _ _ _ _,hbl⟩
   ·have p0 : 0<S.size := by omega
    have p1:1<S.size:=by omega
    have p2:2<S.size:=by omega
    have e0:Pl.lA S.data.toList=((S[0]'p0).toNat:Int):=by rw[Pl.lA,Pl.ya S 0 p0]
    have e1:Pl.lenOf S.data.toList=256*(S[1]'p1).toNat+(S[2]'p2).toNat:=by rw[Pl.lenOf,Pl.ya S 1 p1,Pl.ya S 2 p2]
    have b0:(S[0]'p0).toNat<256:=(S[0]'p0).toNat_lt;have b1:(S[1]'p1).toNat<256:=(S[1]'p1).toNat_lt;have b2:(S[2]'p2).toNat<256:=(S[2]'p2).toNat_lt
    by_cases h2:(S[0]'p0).toNat=0
    ·have h2' : (((S[0]'p0).toNat : Int)==0)=true := by simp;omega
     have H:Hid (Pl.dA L=[]/\Pl.dX L=4):=HM.out.fail HNN.out (by simp[Pl.gS,hln,h1,e0,h2]) (by decide);clear e0 e1 hln h2;go_wp2;rw[Exit.noGoto_ret]
     go_ret2
     rw[H.out.1,H.out.2];exact⟨_,rfl,NH _ _ _ _,hbl⟩
    ·have h2' : (((S[0]'p0).toNat : Int)==0)=false := by simp;omega
     by_cases h3:((S[0]'p0).toNat:Int)<la
     ·have H : Hid (Pl.dA L=[] ∧ Pl.dX L=11) := HM.out.fail HNN.out (by
       unfold Pl.gS;rw[e0,hln,ME h1,ME (by omega),MC h3]) (by decide)
      clear e0 e1 hln h2;go_wp2;rw[Exit.noGoto_ret]
      go_ret2
      rw[H.out.1,H.out.2];exact⟨_,rfl,NH _ _ _ _,hbl⟩
     ·have q1 : (1 : Int)<(S.size : Int) := by omega
      have q2:(2:Int)<(S.size:Int):=by omega
      by_cases h4:(S.size:Int)<3+((S[1]'p1).toNat:Int)*256+((S[2]'p2).toNat:Int)
      ·have H : Hid (Pl.dA L=[] ∧ Pl.dX L=10) := HM.out.fail HNN.out (by
        unfold Pl.gS;rw[e0,e1,hln,ME h1,ME (by omega),ME h3,MC (by omega)]) (by decide)
       clear e0 e1 hln h2;go_wp2
       go_quiet (fail)
       go_wp2;rw[Exit.noGoto_ret]
       go_ret2
       rw[H.out.1,H.out.2];exact⟨_,rfl,NH _ _ _ _,Ol hbl _⟩
      ·have HST : Hid (Pl.Mid L (done++[Pl.jm S.data.toList]) (Pl.lA S.data.toList) (S.data.toList.drop (3+Pl.lenOf S.data.toList))) := HM.out.step HNN.out (by
        unfold Pl.gS;rw[e0,e1,hln,ME h1,ME (by omega),ME h3,ME (by omega)])
       have HFO:Hid (Pl.jm S.data.toList=(((S[0]'p0).toNat:Int),S.extract 3 (3+(S[1]'p1).toNat*256+(S[2]'p2).toNat))):=by
        show Pl.jm S.data.toList=_;unfold Pl.jm;rw[e0,e1,Pl.fX,show 3+(S[1]'p1).toNat*256+(S[2]'p2).toNat-3=256*(S[1]'p1).toNat+(S[2]'p2).toNat from by omega]
       have HE0:Hid (Pl.lA S.data.toList=((S[0]'p0).toNat:Int)):=e0;have HE1:Hid (Pl.lenOf S.data.toList=256*(S[1]'p1).toNat+(S[2]'p2).toNat):=e1;clear e0 e1 hln h2;go_wp2
       go_quiet (fail)
       go_wp2_with (at_builtin;refine OP _ rfl (.tmp 40) (.tmp 46) 101 rfl w.1.size 134 i0 (.agg #[.int .i64 0,.string ⟨#[]⟩]) 2 24 Tryz.underlying101 hi hz0 hz1 hz2 rfl (by decide) _ _ _ rfl ((sk hown _).alloc _) ⟨wr.1.size,0,none⟩ 1 1 [.int .i64 ((S[0]'p0).toNat:Int),.string (S.extract 3 (3+(S[1]'p1).toNat*256+(S[2]'p2).toNat))] rfl rfl (App.my _ _ rfl _ _ _) (App.Bn _ _) (by unfold maxLen;omega) (by omega) (by first | omega | (simp;omega)) ?_;intro v1 w1 hown1 hgrow1 _)
       go_roundw
       case rel =>
        refine⟨_,done++[Pl.jm S.data.toList],Pl.lA S.data.toList,rfl,by rw[HE0.out],?_,by rw[HE0.out];omega,?_,?_,?_⟩
        ·rw[NL];omega
        ·rw[xw,show 3+(S[1]'p1).toNat*256+(S[2]'p2).toNat=3+Pl.lenOf S.data.toList from by rw[HE1.out];omega]
         exact HST.out
        ·rw[HFO.out,fz,MW]
         exact hown1
        ·exact ((Ol hbl _).alloc hsz _).grown hgrow1 (by simp;omega) (λg hg=>(hown.lt g hg).1)
       case measure=>simp only[ByteArray.size_extract];omega
end Go.Proofs.YtiifhfmekbhlnaaGreat.Ks
