/- Part 24. -/
import Derived.OwnWalk
import Derived.Test.YtiifhfmekbhlnaaGreatH23
set_option maxHeartbeats 8000000
set_option maxRecDepth 100000
set_option linter.unusedSimpArgs false
namespace Go.Proofs.YtiifhfmekbhlnaaGreat.Ks
open ChangeShapes WideShapes ChangeAt RowKit Deep
open Ak
theorem FM:(Tryz.prog.info? 134).map (λi=>(i.zero,i.size,i.bytes))=some (some (.agg #[.int .i64 0,.string ⟨#[]⟩]),2,24):=qk
theorem ob (n size)(w)(hn:n<=9223372036854775807):Calls Tryz.prog 83 #[.int .i64 n,.int .i64 size] w λe w'=>e=.returned (.string (Pl.cW n size))/\Bw w w':=by
 go_enter Tryz.func83,Tryz.ntmps83;go_wp2_with fail;refine (xV n size _ hn).mono ?_;rintro e b ⟨rfl,a⟩;go_wp2;go_ret;exact⟨rfl,a⟩
theorem iq (no gen)(w)(hn:no<=9223372036854775807)(hg:gen<=9223372036854775807):Calls Tryz.prog 85 #[VH no gen] w λe w'=>e=.returned (.string (ek no gen))/\Bw w w':=by
 have s:=fj no 1;have t:=fj gen 6;obtain⟨k,c⟩:=qE (Pl.cW no 1);obtain⟨m,d⟩:=qE (Pl.cW gen 6);have u:=hH<|show ek no gen=k++m by rw[<-c,<-d];rfl
 rw[c]at s;rw[d]at t;have v:¬ 9223372036854775807<k.size+m.size:=qo
 obtain⟨W,h⟩:=qF (w.alloc (BH no gen));have f:W.1[w.1.size]?=some (BH no gen):=by rw[h];exact MD w _
 have g:Hid _:=qB h;obtain⟨o,q⟩:=cU f;have y:=λp:jy W=>p.cell o
 have z:=λp:jy W=>p.cell q
 have i:Hid (∀ V,Calls Tryz.prog 83 #[.int .i64 no,.int .i64 1] V λe w'=>e=.returned (.string k)/\Bw V w'):=λV=>by rw[<-c];exact ob no 1 V hn
 have j:Hid (∀ V,Calls Tryz.prog 83 #[.int .i64 gen,.int .i64 6] V λe w'=>e=.returned (.string m)/\Bw V w'):=λV=>by rw[<-d];exact ob gen 6 V hg
 have n:=ki W;clear c d f o q hn hg;go_enter Tryz.func85,Tryz.ntmps85;go_wp2_with fail;rw[<-h];clear h;refine fK qk qk ?_
 repeat (go_big_quiet_step (first
  | (go_at_call_of 83 (Value.int .i64 6);with_reducible refine fN (jy.grown _) (j.out _))
  | (go_at_call 83;with_reducible refine fN (jy.grown _) (i.out _))))
 rintro A ⟨r,rfl⟩;have x:=hH<|g.out.trans (r.below.mono g.size);go_wp2;go_ret;rw[u.out];exact⟨rfl,x⟩
structure St (n0 b:Nat) (l:List (Int × ByteArray)) (w0:World) (v:Value) (w:World):Prop where
 box:Boxed w b 101 v
 row:w.ownsRow n0 134 2 v l.length (cellsOf l)
 below:Below n0 w0 w
 base:n0<=b
 start:n0<=w0.1.size
theorem St.step {n0 b:Nat}{l:List (Int × ByteArray)}{w0 w w':World}{v:Value}(h:St n0 b l w0 v w)(hb:Bw w w'):St n0 b l w0 v w' :=
 ⟨dI h.box hb,h.row.kept (cP hb none) (Classical.em _),h.below.trans (hb.mono (MS h.start h.below.size)),h.base,h.start⟩
theorem St.fields {n0 b:Nat}{l:List (Int × ByteArray)}{w0 w:World}{v:Value}(h:St n0 b l w0 v w):cT w.1.size w v l:=cT.sj h.row
def nU (b:Nat) (w w':World):Prop:=∀ B o t,t≠134->B≠b->w.1[B]?=some (.cells o t (0,0))->w'.1[B]?=some (.cells o t (0,0))
theorem added {n0 b:Nat}{l:List (Int × ByteArray)}{w0 w w1:World}{v v1:Value}{tag:Int}{s:ByteArray}{o:Obj}(h:St n0 b l w0 v w)(hown:w1.ownsRow n0 134 2 v1 (l.length+1) (cellsOf l++[.int .i64 tag,.string s]))(hgrow:(w.alloc o).grownBy w1 v.ownBlock) :
    ∃ g cap,v1=.slice (some ⟨g,0,none⟩) (l.length+1) cap/\w1.cell? ⟨b,0,none⟩=some v/\w1.frozen? ⟨b,0,none⟩=false/\b<w1.1.size/\Hid (St n0 b (l++[(tag,s)]) w0 v1 (w1.setCell ⟨b,0,none⟩ v1)/\nU b w (w1.setCell ⟨b,0,none⟩ v1)):=by
  obtain⟨k,c,i⟩:=ownsRow_succ hown;have a:=(h.box.alloc _).kept hgrow ((h.box.alloc o).not_row qd (h.row.alloc o));refine⟨k,c,i,a.cell,a.frozen,a.lt,⟨a.set _,?_,?_,h.base,h.start⟩,?_⟩
  · refine World.ownsRow.kept (w := w1) ?_ (grownBy_setCell' w1 b _) (.inr (a.not_row qd hown).symm)
    rw[fz,MW];exact hown
  · have f := h.below.size
    have j:=h.start;exact ((h.below.alloc (MS j f) _).grown hgrow qt (λg r=>(h.row.lt g r).1)).setCell (p:=⟨b,0,none⟩) h.base _
  · intro B m t n q d
    have f:=App.gJ (h.row.alloc o) hgrow ((ML w o B (dC d)).trans d) n;exact (MM _ _ _ B (λe=>q e)).trans f
theorem gr (there)(tag)(s)(n0 b)(l)(w0)(v)(w)(h:St n0 b l w0 v w)(hl:l.length<=1000) :
  Calls Tryz.prog 84 #[.bool there,.int .i64 tag,.string s,.pointer (some ⟨b,0,none⟩)] w λe w'=>e=.returned (.tuple #[])/\∃ v',St n0 b (l++opt there (tag,s)) w0 v' w'/\nU b w w':=by
 cases there with
 | false =>
  have f:Hid (l++opt false (tag,s)=l):=by simp[Hid,opt]
  rw[f.out];go_enter Tryz.func84,Tryz.ntmps84;go_wp2
  go_end0
  exact⟨rfl,v,h,λ_ _ _ _ _ q=>q⟩
 | true =>
  have f:Hid (l++opt true (tag,s)=l++[(tag,s)]):=by simp[Hid,opt]
  rw[f.out];obtain⟨n,o,g,i,j⟩:=NQ FM;have r:=h.box.cell;have m:=h.box.lt;have d:=hH h;clear h;go_enter Tryz.func84,Tryz.ntmps84
  go_wp2_with (at_builtin;refine OP _ rfl (.tmp 8) (.tmp 12) 101 rfl n0 134 n (.agg #[.int .i64 0,.string ⟨#[]⟩]) 2 24 Tryz.underlying101 o g i j rfl qd _ _ _ rfl (d.row.alloc _) ⟨w.1.size,0,none⟩ 1 1 [.int .i64 tag,.string s] rfl rfl (App.my _ _ rfl _ _ _) (App.Bn _ _) (by unfold maxLen;omega) (by omega) (by have:=d.out.below.size;have:=d.out.start;simp;omega) ?_;intro t u c a _;obtain⟨x,k,rfl,y,z,A,p⟩:=added d.out c a;clear c a)
  go_end0
  exact⟨rfl,_,p⟩
def Fr (A n0 b:Nat) (c:Cl) (l:List (Int × ByteArray)) (w0:World) (v:Value) (w:World):Prop:=w.1[A]?=some (BC c)/\St n0 b l w0 v w
theorem Fr.step {A n0 b:Nat}{c:Cl}{l:List (Int × ByteArray)}{w0 w w':World}{v:Value}(h:Fr A n0 b c l w0 v w)(hb:Bw w w'):Fr A n0 b c l w0 v w':=⟨dI h.1 hb,h.2.step hb⟩
theorem Fr.drew {A n0 b:Nat}{c:Cl}{l:List (Int × ByteArray)}{w0 w:World}{v:Value}(h:Fr A n0 b c l w0 v w):Fr A n0 b c l w0 v w.drew:=⟨h.1,⟨h.2.box,h.2.row,h.2.below.drew,h.2.base,h.2.start⟩⟩
theorem qj (no gen)(w):(binOp .neq 57 (VH no gen) (VH 0 0)).run Tryz.prog w=.ok (.bool (vG no gen)) w:=by
 unfold vG
 cases h1:(no==0) <;> cases h2:(gen==0) <;> go_simp <;> simp[h1,h2]
theorem mE {A i j:Nat}{x y:Value}{o:Obj}{w w':World}(h:w.cell? ⟨A,i,none⟩=some x/\w.cell? ⟨A,j,none⟩=some y/\w.1[A]?=some o)(hb:Bw w w') :
 w'.cell? ⟨A,i,none⟩=some x/\w'.cell? ⟨A,j,none⟩=some y/\w'.1[A]?=some o:=⟨cC h.1 hb,cC h.2.1 hb,dI h.2.2 hb⟩
theorem lB {A b i j:Nat}{x y:Value}{c:Cl}{w w':World}(hne:A≠b)(h:w.cell? ⟨A,i,none⟩=some x/\w.cell? ⟨A,j,none⟩=some y/\w.1[A]?=some (BC c))(ho:nU b w w') :
  w'.cell? ⟨A,i,none⟩=some x/\w'.cell? ⟨A,j,none⟩=some y/\w'.1[A]?=some (BC c):=by
 have a:=ho A _ _ qd hne h.2.2;have e:=a.trans h.2.2.symm;exact⟨by simp only[World.cell?,e];exact h.1,by simp only[World.cell?,e];exact h.2.1,a⟩
theorem jw (l)(b)(y:Int × ByteArray):(l++opt b y).length<=l.length+1:=by
 unfold opt
 cases b <;> simp
theorem lens (c:Cl):(f1 c).length<=1000/\(f2 c).length<=1000/\(f3 c).length<=1000/\(f4 c).length<=1000/\(f5 c).length<=1000/\(f6 c).length<=1000/\(f7 c).length<=1000:=by
 have a:(f1 c).length=1:=rfl;have b:(f2 c).length<=(f1 c).length+1:=jw _ _ _;have d:(f3 c).length<=(f2 c).length+1:=jw _ _ _;have f:(f4 c).length<=(f3 c).length+1:=jw _ _ _;have g:(f5 c).length<=(f4 c).length+1:=jw _ _ _;have h:(f6 c).length<=(f5 c).length+1:=jw _ _ _;have i:(f7 c).length<=(f6 c).length+1:=jw _ _ _;omega
theorem start (n0)(w0 w1)(h:Below n0 w0 w1)(hn:n0<=w0.1.size)(tag)(s) :
  St n0 (w1.1.size+1) [(tag,s)] w0 (.slice (some ⟨w1.1.size,0,none⟩) 1 1) ((w1.alloc (.cells #[.int .i64 tag,.string s] 134)).alloc (.cells #[.slice (some ⟨w1.1.size,0,none⟩) 1 1] 101)):=by
 have a:=h.size;refine⟨?_,⟨rfl,.inr ⟨w1.1.size,1,#[.int .i64 tag,.string s],rfl,qo,?_,qn,qd,rfl,rfl⟩⟩,(h.alloc qo _).alloc qt _,qo,hn⟩
 ·have := Boxed.new (w1.alloc (.cells #[.int .i64 tag,.string s] 134)) 101 (.slice (some ⟨w1.1.size,0,none⟩) 1 1)
  rw[NV]at this;exact this
 ·exact (ML _ _ _ qs).trans (MD w1 _)
theorem o6 (c:Cl) (w:World) (hr:dN c) :
    Calls Tryz.prog 50 #[VC c] w λe w'=>∃ v,e = .returned v/\cT w'.heap.size w' v (fields c)/\Below w.heap.size w w':=by
  have HK:Hid (c.k<=9223372036854775807):=by have:=hr.1;show c.k<=_;omega
  have HH:Hid ((c.no<=9223372036854775807/\c.gen<=9223372036854775807)/\c.jz<=9223372036854775807/\c.fm<=9223372036854775807):=by
    obtain ⟨-,⟨⟨-,h1⟩,-,h2⟩,⟨⟨-,h3⟩,-,h4⟩,-⟩:=hr
    exact ⟨⟨by omega,by omega⟩,by omega,by omega⟩
  have HN:Hid (c.pl<=9223372036854775807/\c.n<=9223372036854775807):=by
    obtain ⟨-,-,-,-,-,⟨-,h1⟩,⟨-,h2⟩,-⟩:=hr
    exact ⟨by omega,by omega⟩
  clear hr
  go_enter Tryz.func50,Tryz.ntmps50
  go_wp2_with fail
  refine (ob c.k 1 _ HK.out).mono ?_
  rintro e w1 ⟨rfl,hb1⟩
  have HB0:Hid (Below w.1.size w w1):=((MJ _ _).alloc (MI _) _).trans (hb1.mono (by simp))
  have HA0:Hid (w1.1[w.1.size]?=some (BC c)):=dI (MD w (BC c)) hb1
  have HS0:Hid (St w.1.size (w1.1.size+1) (f1 c) w _ _):=start w.heap.size w w1 HB0.out (MI _) 1 (Pl.cW c.k 1)
  generalize Pl.cW c.k 1 = n1 at *
  go_wp2_with fail
  have HF1:Hid (Fr w.heap.size w.heap.size (w1.heap.size + 1) c (f1 c) w (.slice (some ⟨w1.heap.size,0,none⟩) 1 1) ((w1.alloc (.cells #[.int .i64 1,.string n1] 134)).alloc (.cells #[.slice (some ⟨w1.heap.size,0,none⟩) 1 1] 101))) :=
    ⟨(ML _ _ _ (by have:=dC HA0.out;simp;omega)).trans ((ML _ _ _ (dC HA0.out)).trans HA0.out),HS0.out⟩
  have HNE:Hid (w.heap.size≠w1.heap.size + 1):=by have:=dC HA0.out;show _≠_;omega
  have hbx:w.1.size<w1.1.size:=dC HA0.out
  generalize (w1.alloc (.cells #[.int .i64 1,.string n1] 134)).alloc (.cells #[.slice (some ⟨w1.heap.size,0,none⟩) 1 1] 101) = W at *
  generalize w1.heap.size + 1 = b at *
  generalize Value.slice (some ⟨w1.heap.size,0,none⟩) 1 1 = v1 at *
  obtain ⟨A,hA⟩:∃ A,w.heap.size = A:=⟨_,rfl⟩
  rw [hA] at HF1 HNE |-
  have HAA:Hid (w.1.size=A):=hA
  clear hb1 HB0 HA0 HS0 hbx hA
  have HL:Hid ((f1 c).length<=1000):=by show (f1 c).length<=1000;simp [f1]
  have HC1:Hid (W.cell? ⟨A,1,none⟩ = some (.int .i64 c.no)/\W.cell? ⟨A,2,none⟩ = some (.int .i64 c.gen)/\W.heap[A]? = some (BC c)):=⟨(dK HF1.out.1).2.1,(dK HF1.out.1).2.2.1,HF1.out.1⟩
  have hng1:∀ w',(binOp .neq 57 (VH c.no c.gen) (VH 0 0)).run Tryz.prog w'=.ok (.bool (vG c.no c.gen)) w':=qj _ _
  go_region_held3 (λw'=>w'.cell? ⟨A,1,none⟩ = some (.int .i64 c.no)/\w'.cell? ⟨A,2,none⟩ = some (.int .i64 c.gen)/\w'.heap[A]? = some (BC c)) (first | exact HC1.out | assumption | exact mE (by assumption) (by assumption) | exact lB HNE.out (by assumption) (by assumption)) (first
    | (go_at_call 85;refine (iq c.no c.gen _ HH.out.1.1 HH.out.1.2).mono ?_;rintro e x1 ⟨rfl,hb1⟩)
    | (go_at_call 84;refine (gr (vG c.no c.gen) 2 (ek c.no c.gen) A b (f1 c) w v1 _ (HF1.out.drew.step hb1).2 (lens c).1).mono ?_;rintro e w2 ⟨rfl,v2,hst2,ho2⟩))
  have HF2:Hid (Fr A A b c (f2 c) w v2 w2):=⟨ho2 A _ _ (by decide) HNE.out (HF1.out.drew.step hb1).1,hst2⟩
  clear hst2 ho2 hb1 HC1 HF1 hng1
  go_wp2_with fail
  have HC2:Hid (w2.cell? ⟨A,3,none⟩ = some (.int .i64 c.jz)/\w2.cell? ⟨A,4,none⟩ = some (.int .i64 c.fm)/\w2.heap[A]? = some (BC c)):=⟨(dK HF2.out.1).2.2.2.1,(dK HF2.out.1).2.2.2.2.1,HF2.out.1⟩
  have hng2:∀ w',(binOp .neq 57 (VH c.jz c.fm) (VH 0 0)).run Tryz.prog w'=.ok (.bool (vG c.jz c.fm)) w':=qj _ _
  go_region_held3 (λw'=>w'.cell? ⟨A,3,none⟩ = some (.int .i64 c.jz)/\w'.cell? ⟨A,4,none⟩ = some (.int .i64 c.fm)/\w'.heap[A]? = some (BC c)) (first | exact HC2.out | assumption | exact mE (by assumption) (by assumption) | exact lB HNE.out (by assumption) (by assumption)) (first
    | (go_at_call 85;refine (iq c.jz c.fm _ HH.out.2.1 HH.out.2.2).mono ?_;rintro e x2 ⟨rfl,hb2⟩)
    | (go_at_call 84;refine (gr (vG c.jz c.fm) 3 (ek c.jz c.fm) A b (f2 c) w v2 _ (HF2.out.drew.step hb2).2 (lens c).2.1).mono ?_;rintro e w3 ⟨rfl,v3,hst3,ho3⟩))
  have HF3:Hid (Fr A A b c (f3 c) w v3 w3):=⟨ho3 A _ _ (by decide) HNE.out (HF2.out.drew.step hb2).1,hst3⟩
  clear hst3 ho3 hb2 HC2 HF2 hng2
  have c3:w3.cell? ⟨A,5,none⟩=some (.string c.nm):=(dK HF3.out.1).2.2.2.2.2.1
  go_wp2_with fail
  refine (gr (!c.nm.toList.isEmpty) 4 c.nm A b (f3 c) w v3 _ HF3.out.2 (lens c).2.2.1).mono ?_
  rintro e w4 ⟨rfl,v4,hst4,ho4⟩
  have HF4:Hid (Fr A A b c (f4 c) w v4 w4):=⟨ho4 A _ _ (by decide) HNE.out HF3.out.1,hst4⟩
  clear hst4 ho4 c3 HF3
  have c4:w4.cell? ⟨A,6,none⟩=some (.string c.lV):=(dK HF4.out.1).2.2.2.2.2.2.1
  go_wp2_with fail
  refine (gr (!c.lV.toList.isEmpty) 5 c.lV A b (f4 c) w v4 _ HF4.out.2 (lens c).2.2.2.1).mono ?_
  rintro e w5 ⟨rfl,v5,hst5,ho5⟩
  have HF5:Hid (Fr A A b c (f5 c) w v5 w5):=⟨ho5 A _ _ (by decide) HNE.out HF4.out.1,hst5⟩
  clear hst5 ho5 c4 HF4
  go_wp2_with fail
  have HC5:Hid (w5.cell? ⟨A,7,none⟩ = some (.int .i64 c.pl)/\w5.cell? ⟨A,7,none⟩ = some (.int .i64 c.pl)/\w5.heap[A]? = some (BC c)):=⟨(dK HF5.out.1).2.2.2.2.2.2.2.1,(dK HF5.out.1).2.2.2.2.2.2.2.1,HF5.out.1⟩
  go_region_held3 (λw'=>w'.cell? ⟨A,7,none⟩ = some (.int .i64 c.pl)/\w'.cell? ⟨A,7,none⟩ = some (.int .i64 c.pl)/\w'.heap[A]? = some (BC c)) (first | exact HC5.out | assumption | exact mE (by assumption) (by assumption) | exact lB HNE.out (by assumption) (by assumption)) (first
    | (go_at_call 83;refine (ob c.pl 4 _ HN.out.1).mono ?_;rintro e x5 ⟨rfl,hb5⟩)
    | (go_at_call 84;refine (gr (c.pl != 0) 6 (Pl.cW c.pl 4) A b (f5 c) w v5 _ (HF5.out.drew.step hb5).2 (lens c).2.2.2.2.1).mono ?_;rintro e w6 ⟨rfl,v6,hst6,ho6⟩))
  have HF6:Hid (Fr A A b c (f6 c) w v6 w6):=⟨ho6 A _ _ (by decide) HNE.out (HF5.out.drew.step hb5).1,hst6⟩
  clear hst6 ho6 hb5 HC5 HF5
  go_wp2_with fail
  have HC6:Hid (w6.cell? ⟨A,8,none⟩ = some (.int .i64 c.n)/\w6.cell? ⟨A,8,none⟩ = some (.int .i64 c.n)/\w6.heap[A]? = some (BC c)):=⟨(dK HF6.out.1).2.2.2.2.2.2.2.2.1,(dK HF6.out.1).2.2.2.2.2.2.2.2.1,HF6.out.1⟩
  go_region_held3 (λw'=>w'.cell? ⟨A,8,none⟩ = some (.int .i64 c.n)/\w'.cell? ⟨A,8,none⟩ = some (.int .i64 c.n)/\w'.heap[A]? = some (BC c)) (first | exact HC6.out | assumption | exact mE (by assumption) (by assumption) | exact lB HNE.out (by assumption) (by assumption)) (first
    | (go_at_call 83;refine (ob c.n 2 _ HN.out.2).mono ?_;rintro e x6 ⟨rfl,hb6⟩)
    | (go_at_call 84;refine (gr (c.n != 0) 7 (Pl.cW c.n 2) A b (f6 c) w v6 _ (HF6.out.drew.step hb6).2 (lens c).2.2.2.2.2.1).mono ?_;rintro e w7 ⟨rfl,v7,hst7,ho7⟩))
  have HF7:Hid (Fr A A b c (f7 c) w v7 w7):=⟨ho7 A _ _ (by decide) HNE.out (HF6.out.drew.step hb6).1,hst7⟩
  clear hst7 ho7 hb6 HC6 HF6
  have c7:w7.cell? ⟨A,9,none⟩=some (.string c.data):=(dK HF7.out.1).2.2.2.2.2.2.2.2.2
  go_wp2_with fail
  refine (gr (!c.data.toList.isEmpty) 8 c.data A b (f7 c) w v7 _ HF7.out.2 (lens c).2.2.2.2.2.2).mono ?_
  rintro e w8 ⟨rfl,v8,hst8,ho8⟩
  have HF8:Hid (Fr A A b c (fields c) w v8 w8):=⟨ho8 A _ _ (by decide) HNE.out HF7.out.1,hst8⟩
  clear hst8 ho8 c7 HF7
  have c8:=HF8.out.2.box.cell
  go_wp2
  go_ret
  refine ⟨_,rfl,HF8.out.2.fields,?_⟩
  rw [HAA.out]
  exact HF8.out.2.below
theorem Ak.Gn {c:Cl}(h:dN c):Pl.db (fields c)=db c/\dd c=0:=by
 have b:=jE h;have a:=cG.2 h;exact⟨by rw[Pl.db,b.1,MC rfl,db,MC a],by rw[dd,MC a]⟩
theorem sS (c:Cl)(w):Calls Tryz.prog 29 #[VC c] w λe w'=>e=.returned (.tuple #[.string (db c),.int .i64 (dd c)])/\Bw w w':=by
 by_cases hr:dN c
 ·have o : Hid (dN c) := hr
  have j:=hH<|show (if right c then (0:Int) else 413)=0 by rw[MC (cG.2 hr)]
  have d:=hH<|Ak.Gn hr;have p:Hid ((Pl.encs (fields c)).length<=1099511627776):=MS (jE hr).2.2 (by omega);clear hr;go_enter Tryz.func29,Tryz.ntmps29;go_wp2_with fail;refine (mq c _ 0 j).mono ?_;rintro e l ⟨rfl,a⟩;have b:=hH<|(qG _ _).trans (a.mono qs);obtain⟨q,r,s,t,u,v,x,y,z,A⟩:=dK (dI (MD w (BC c)) a);clear a;go_wp2_with fail;refine (o6 c _ o).mono ?_;rintro e m ⟨B,rfl,g,h⟩;have f:=qJ b h;have k:=hH g;clear h g q r s t u v x y z A;go_wp2_with fail;refine (zH _ _ _ k p).mono ?_;rintro e C ⟨rfl,n⟩;rw[d.out.1];go_wp2
  go_ret2
  rw[d.out.2];exact⟨rfl,f.trans (n.mono f.size)⟩
 ·have i := iy.2 hr
  have j:=hH<|show (if right c then (0:Int) else 413)=413 by rw[i];rfl
  have d:Hid (db c=⟨#[]⟩/\dd c=413):=⟨by simp[db,i],by simp[dd,i]⟩;clear hr i;go_enter Tryz.func29,Tryz.ntmps29;go_wp2_with fail;refine (mq c _ 413 j).mono ?_;rintro e l ⟨rfl,a⟩;have b:=hH<|(qG _ _).trans (a.mono qs);go_wp2
  go_ret2
  rw[d.out.1,d.out.2];exact⟨rfl,b⟩
def Ak.c0:Cl:=⟨1,0,1,0,0,⟨#[97]⟩,⟨#[]⟩,0,0,⟨#[]⟩⟩
namespace Ak
theorem jj : ∀ (f : Nat) (last : Int) (l : List UInt8),∀ x ∈ (Pl.parse f last l).1,x.2.size ≤ 65535
 | 0,_,_,x,hx=>by simp[Pl.parse]at hx
 | f+1,last,l,x,hx => by
  unfold Pl.parse at hx;split at hx
  ·simp at hx
  ·split at hx
   ·unfold Pl.join at hx
    split at hx
    ·simp only[List.cons_append,List.nil_append,List.mem_cons]at hx
     rcases hx with rfl | hx
     ·simp only[Pl.jm,Pl.iP,List.length_take]
      have h1:=(l.getD 1 0).toNat_lt;have h2:=(l.getD 2 0).toNat_lt;unfold Pl.lenOf;omega
     ·exact jj f _ _ x hx
    ·simp at hx
   ·simp at hx
theorem xi (L:List UInt8){k:Nat}(h:k<(Pl.dA L).length):((Pl.dA L).getD k (0,.empty)).2.size<=65535:=by
 have:(Pl.dA L).getD k (0,.empty)=(Pl.dA L)[k]:=by simp[List.getD,h]
 rw[this];exact jj _ _ _ _ (List.getElem_mem h)
theorem AF {l:List (Int × ByteArray)}{k:Nat}(h:k<l.length):eL (l.take (k+1))=kq (eL (l.take k)) (l.getD k (0,.empty)):=by
 rw[Np h,sU];simp[List.getD,h]
theorem Cc {s:ByteArray}(h0:Pl.dX s.data.toList=0)(h1:dd (eL (Pl.dA s.data.toList))=0)(h2:db (eL (Pl.dA s.data.toList))=s):jY s.data.toList=eL (Pl.dA s.data.toList)/\fZ s.data.toList=0:=by
 have a:right (eL (Pl.dA s.data.toList))=true:=by
  unfold dd at h1;split at h1
  ·assumption
  ·cases h1
 have c:Pl.encs (fields (eL (Pl.dA s.data.toList)))=s.data.toList:=by
  unfold db at h2;rw[MC a]at h2;rw[<-Pl.kb (Pl.encs (fields (eL (Pl.dA s.data.toList)))),h2]
 have b:mC s.data.toList=true:=by
  unfold mC;rw[h0,a,c];simp
 unfold jY fZ;rw[MC b,MC b];exact⟨rfl,rfl⟩
theorem ry {s:ByteArray}(h:Pl.dX s.data.toList≠0\/dd (eL (Pl.dA s.data.toList))≠0\/db (eL (Pl.dA s.data.toList))≠s):jY s.data.toList=zero/\fZ s.data.toList=413:=by
 have d:mC s.data.toList=false:=by
  rw[ON];intro d;unfold mC at d;simp only[Bool.and_eq_true,decide_eq_true_eq]at d;obtain⟨⟨a,b⟩,c⟩:=d;rcases h with h | h | h
  ·exact h a
  ·exact h (by unfold dd;rw[MC b])
  ·refine h ?_
   unfold db;rw[MC b,c,Pl.gk]
 unfold jY fZ;rw[d];exact⟨rfl,rfl⟩
end Ak
theorem Cj {a b:ByteArray}(h:a≠b):(a.toList==b.toList)=false:=by
 rw[ND,ND,MQ];intro e;apply h
 rw[<-Pl.gk a,<-Pl.gk b,e]
theorem cT.open {B:Nat}{w:World}{v:Value}{l:List (Int × ByteArray)}(h:cT B w v l):∃ ao cap,v=.slice ao l.length cap/\l.length<=maxLen/\∀ i,i<l.length->∃ b off,ao=some ⟨b,off,none⟩/\b<B/\w.cell? ⟨b,off+i*2,none⟩=some (.int .i64 (l.getD i (0,.empty)).1)/\w.cell? ⟨b,off+i*2+1,none⟩=some (.string (l.getD i (0,.empty)).2):=by
 rcases h with⟨ao,cap,rfl,rfl⟩ | ⟨b,off,cap,rfl,d,j,a,f,g⟩
 ·exact⟨ao,cap,rfl,MV _,λi c=>by simp at c⟩
 ·exact⟨_,cap,rfl,MS a f,λi c=>⟨b,off,rfl,d,g i c⟩⟩
def GR (w:World) (b:Nat) (c:Cl):World:=(((((((((w.setCell ⟨b,0,none⟩ (.int .i64 c.k)).setCell ⟨b,1,none⟩ (.int .i64 c.no)).setCell ⟨b,2,none⟩ (.int .i64 c.gen)).setCell ⟨b,3,none⟩ (.int .i64 c.jz)).setCell ⟨b,4,none⟩ (.int .i64 c.fm)).setCell ⟨b,5,none⟩ (.string c.nm)).setCell ⟨b,6,none⟩ (.string c.lV)).setCell ⟨b,7,none⟩ (.int .i64 c.pl)).setCell ⟨b,8,none⟩ (.int .i64 c.n)).setCell ⟨b,9,none⟩ (.string c.data)
theorem Cu {w:World}{b:Nat}{c:Cl}(h:w.1[b]?=some (BC c))(d:Cl):(GR w b d).1[b]?=some (BC d):=by
 unfold GR;simp[World.setCell,Array.getElem?_modify,h]
theorem jU {B b:Nat}{w w':World}(h:Below B w w')(hb:B<=b)(d:Cl):Below B w (GR w' b d) :=
 (((((((((h.setCell (p:=⟨b,0,none⟩) hb _).setCell (p:=⟨b,1,none⟩) hb _).setCell (p:=⟨b,2,none⟩) hb _).setCell (p:=⟨b,3,none⟩) hb _).setCell (p:=⟨b,4,none⟩) hb _).setCell (p:=⟨b,5,none⟩) hb _).setCell (p:=⟨b,6,none⟩) hb _).setCell (p:=⟨b,7,none⟩) hb _).setCell (p:=⟨b,8,none⟩) hb _).setCell (p:=⟨b,9,none⟩) hb _
theorem vX (s : ByteArray) (w : World) (hs : s.size ≤ 1048576) :
    Calls Tryz.prog 55 #[.string s] w λe w'=>e = .returned (.tuple #[VC (jY s.data.toList),.int .i64 (fZ s.data.toList)])/\Below w.heap.size w w':=by
  have HS:Hid (s.size<=1048576):=hs
  clear hs
  obtain ⟨l,hl⟩:∃ l,Pl.dA s.data.toList = l:=⟨_,rfl⟩
  have HL:Hid (Pl.dA s.data.toList=l):=hl
  have HSM:Hid (∀ k,k < l.length->(l.getD k (0,.empty)).2.size<=65535):=by rw [<-hl];exact λk hk=>xi _ hk
  obtain ⟨C,hC⟩:∃ C,jY s.data.toList = C:=⟨_,rfl⟩
  obtain ⟨E,hE⟩:∃ E,fZ s.data.toList = E:=⟨_,rfl⟩
  have HCE:Hid (jY s.data.toList = C/\fZ s.data.toList = E):=⟨hC,hE⟩
  rw [hC,hE]
  clear hC hE hl
  by_cases h0:Pl.dX s.data.toList = 0
  · have H0 : Hid (Pl.dX s.data.toList = 0) := h0
    clear h0
    go_enter Tryz.func55,Tryz.ntmps55
    go_wp2_with fail
    refine (mM s _ HS.out).mono ?_
    rintro e w1 ⟨r,rfl,hown,hb1⟩
    rw [H0.out]
    rw [HL.out] at hown
    obtain ⟨ao,cap,rfl,hm,hx⟩:=(cT.sj hown).open
    unfold maxLen at hm
    obtain ⟨n,hn⟩:∃ n,l.length = n:=⟨_,rfl⟩
    rw [hn] at hm hx |-
    have HN:Hid (l.length=n):=hn
    have HX:Hid (∀ i,i<n->∃ b off,ao=some ⟨b,off,none⟩/\b<w1.1.size/\w1.cell? ⟨b,off+i*2,none⟩=some (.int .i64 (l.getD i (0,.empty)).1)/\w1.cell? ⟨b,off+i*2+1,none⟩=some (.string (l.getD i (0,.empty)).2)):=hx
    have HB1:Hid (Below w.1.size w w1):=((MJ _ _).alloc (MI _) _).trans (hb1.mono (by simp))
    have HR1:Hid (w1.1[w.1.size]?=some (BC Ak.zero)):=dI (MD w (BC Ak.zero)) hb1
    have hlt1:w.1.size<w1.1.size:=dC HR1.out
    clear hown hb1 hn hx
    go_wp2_with fail
    go_loopw [21] (λi wr=>∃ k:Nat,k<=n/\i = .int .i64 k/\Hid (wr.heap[w1.heap.size]? = some (BC (eL (l.take k))))/\Hid (Below w1.heap.size w1 wr)) (λi _=>n - (intOf i).toNat)
    case atStart=>exact ⟨0,MV _,rfl,MD w1 _,(MJ _ _).alloc (MI _) _⟩
    case round =>
      obtain ⟨k,hk,rfl,HK,HB⟩:=hrel
      obtain ⟨c,hc⟩:∃ c,eL (l.take k) = c:=⟨_,rfl⟩
      have HCK:Hid (eL (l.take k)=c):=hc
      rw [hc] at HK
      clear hc
      obtain ⟨c0,c1,c2,c3,c4,c5,c6,c7,c8,c9⟩:=dK HK.out
      have hlt2:w1.1.size<wr.1.size:=dC HK.out
      by_cases hlt:k < n
      · obtain ⟨b, off, rfl, hB, x0, x1⟩ := HX.out k hlt
        rw [<-HB.out.cell (p:=⟨b,off + k * 2,none⟩) hB] at x0
        rw [<-HB.out.cell (p:=⟨b,off + k * 2 + 1,none⟩) hB] at x1
        have HSZ:Hid ((l.getD k (0,.empty)).2.size<=65535):=HSM.out k (by rw [HN.out];exact hlt)
        have HNX:Hid (eL (l.take (k+1))=kq c (l.getD k (0,.empty))):=by show eL (l.take (k+1))=_;rw [AF (by rw [HN.out];exact hlt),HCK.out]
        generalize l.getD k (0,.empty) = f at *
        obtain ⟨t,y⟩:=f
        go_wp2_with fail
        refine (lZ c t y _ (by have h9:y.size<=65535:=HSZ.out;unfold maxLen;omega)).mono ?_
        rintro e w2 ⟨rfl,hb2⟩
        have HK2:Hid (w2.1[w1.1.size]?=some (BC c)):=(hb2.block _ (by simp;omega)).trans ((ML _ _ _ hlt2).trans HK.out)
        have HB2:Hid (Below w1.1.size w1 w2):=(HB.out.alloc (by omega) _).trans (hb2.mono (by simp;omega))
        obtain ⟨d,hd⟩:∃ d,kq c (t,y) = d:=⟨_,rfl⟩
        rw [hd] at HNX |-
        have fa:∀ j,w2.frozen? ⟨w1.heap.size,j,none⟩ = false:=λj=>by simp [World.frozen?,HK2.out]
        have e0:=(dK HK2.out)
        obtain ⟨e0,e1,e2,e3,e4,e5,e6,e7,e8,e9⟩:=e0
        have hlt3:w1.1.size<w2.1.size:=dC HK2.out
        clear hb2 hd c0 c1 c2 c3 c4 c5 c6 c7 c8 c9 x0 x1
        go_wp2
        go_roundw
        case rel=>exact ⟨k + 1,by omega,by go_num,by rw [HNX.out];exact Cu HK2.out d,jU HB2.out (MI _) d⟩
        case measure=>simp [intOf];omega
      · obtain rfl : k = n := by omega
        have HCC:Hid (eL (Pl.dA s.data.toList)=c):=by
          show _=c
          rw [<-HCK.out,HL.out,MY (by rw [HN.out];exact MI _)]
        have HR2:=hH<|(HB.block _ hlt1).trans HR1
        have HBW:=hH<|HB1.out.trans (HB.mono HB1.size)
        go_wp2_with fail
        refine (sS c _).mono ?_
        rintro e w2 ⟨rfl,hb2⟩
        have HK2:Hid (w2.1[w1.1.size]?=some (BC c)):=dI HK.out hb2
        have HR3:Hid (w2.1[w.1.size]?=some (BC Ak.zero)):=dI HR2.out hb2
        have HB2:=hH<|HBW.out.trans (hb2.mono HBW.size)
        have fa:∀ j,w2.frozen? ⟨w.heap.size,j,none⟩ = false:=λj=>by simp [World.frozen?,HR3.out]
        have hl3:w.1.size<w2.1.size:=dC HR3.out
        obtain ⟨d0,d1,d2,d3,d4,d5,d6,d7,d8,d9⟩:=dK HR3.out
        clear hb2 c0 c1 c2 c3 c4 c5 c6 c7 c8 c9
        obtain ⟨c0,c1,c2,c3,c4,c5,c6,c7,c8,c9⟩:=dK HK2.out
        by_cases hp:dd c = 0
        · by_cases hq : db c = s
          · have HY := Ak.Cc H0.out (by rw [HCC.out]; exact hp) (by rw [HCC.out]; exact hq)
            have H:Hid (C = c/\E = 0):=⟨by rw [<-HCE.out.1,HY.1,HCC.out],by rw [<-HCE.out.2,HY.2]⟩
            rw [hp,hq]
            have t1:(s.toList==s.toList)=true:=OS _
            clear hp hq HY
            go_wp2
            refine MK (v:=.tuple #[VC c,.int .i64 0]) (by simp [results,Tryz.results55,go_sem,d0,d1,d2,d3,d4,d5,d6,d7,d8,d9]) rfl ⟨?_,jU HB2.out (MI _) c⟩
            rw [H.out.1,H.out.2]
          · have HY := Ak.ry (s := s) (.inr (.inr (by rw [HCC.out]; exact hq)))
            have H:Hid (C = Ak.zero/\E = 413):=⟨by rw [<-HCE.out.1,HY.1],by rw [<-HCE.out.2,HY.2]⟩
            rw [hp]
            have t1:=Cj hq
            clear hp hq HY
            generalize db c = p at *
            go_wp2
            refine MK (v:=.tuple #[VC Ak.zero,.int .i64 413]) (by simp [results,Tryz.results55,go_sem,Ak.zero,d0,d1,d2,d3,d4,d5,d6,d7,d8,d9]) rfl ⟨?_,jU HB2.out (MI _) Ak.zero⟩
            rw [H.out.1,H.out.2]
        · have HY := Ak.ry (s := s) (.inr (.inl (by rw [HCC.out]; exact hp)))
          have H:Hid (C = Ak.zero/\E = 413):=⟨by rw [<-HCE.out.1,HY.1],by rw [<-HCE.out.2,HY.2]⟩
          have hp':dd c = 413:=by unfold dd at hp |-;split at hp <;> simp_all
          rw [hp']
          clear hp hp' HY
          generalize db c = p at *
          go_wp2
          refine MK (v:=.tuple #[VC Ak.zero,.int .i64 413]) (by simp [results,Tryz.results55,go_sem,Ak.zero,d0,d1,d2,d3,d4,d5,d6,d7,d8,d9]) rfl ⟨?_,jU HB2.out (MI _) Ak.zero⟩
          rw [H.out.1,H.out.2]
  · have H1 := Ak.ry (.inl h0)
    have H:Hid (C = Ak.zero/\E = 413):=⟨HCE.out.1.symm.trans H1.1,HCE.out.2.symm.trans H1.2⟩
    obtain ⟨q,hq⟩:∃ q,Pl.dX s.data.toList = q:=⟨_,rfl⟩
    have hq1:(q != 0) = true:=by rw [<-hq];simpa using h0
    have HQ:Hid (Pl.dX s.data.toList=q):=hq
    clear h0 H1 hq
    go_enter Tryz.func55,Tryz.ntmps55
    go_wp2_with fail
    refine (mM s _ HS.out).mono ?_
    rintro e w1 ⟨r,rfl,hown,hb1⟩
    rw [HQ.out]
    have HB1:Hid (Below w.1.size w w1):=((MJ _ _).alloc (MI _) _).trans (hb1.mono (by simp))
    have HR1:Hid (w1.1[w.1.size]?=some (BC Ak.zero)):=dI (MD w (BC Ak.zero)) hb1
    have fa:∀ j,w1.frozen? ⟨w.heap.size,j,none⟩ = false:=λj=>by simp [World.frozen?,HR1.out]
    have hl3:w.1.size<w1.1.size:=dC HR1.out
    obtain ⟨d0,d1,d2,d3,d4,d5,d6,d7,d8,d9⟩:=dK HR1.out
    clear hown hb1
    go_wp2
    refine MK (v:=.tuple #[VC Ak.zero,.int .i64 413]) (by simp [results,Tryz.results55,go_sem,Ak.zero,d0,d1,d2,d3,d4,d5,d6,d7,d8,d9]) rfl ⟨?_,jU HB1.out (MI _) Ak.zero⟩
    rw [H.out.1,H.out.2]
end Go.Proofs.YtiifhfmekbhlnaaGreat.Ks
namespace Go.Proofs.YtiifhfmekbhlnaaGreat
open ChangeShapes WideShapes ChangeAt RowKit Deep It
theorem Mc.x9 {x:Sh.iF}{cl rq:Int}(h:Mc.eP x cl rq=0):0<=x.dn/\x.dn<1099511627776:=by
 obtain⟨a,-,-,b⟩:=Mc.jF h;have:=(Nf.nI.1 (Mc.ru.1 a).1).dn.1;omega
theorem DU {L:List Rw}{T:List cL}{O:List Os.dP}{d:Int}(hp:pl L=T)(h:Nf.right T O d=true):Sp.m6 L:=Sp.Kx (by rw[hp];exact (Nf.nI.1 h).sp)
theorem IG {S:Nat->Prop}{w:World}{vi vo vz:Value}{L:List Rw}{x:Sh.iF}(h:Ms S w vi vo vz L x)(cl)(b):∀ y∈(Mc.CL x cl b).cE,y.1.size<=maxLen:=λy f=>by
 obtain⟨z,a,c⟩:=Mc.IC f;rw[<-h.eq]at a;obtain⟨r,d,rfl⟩:=NI.1 a;exact h.ok r d y c
theorem Mc.fits (s:List UInt8):(Ks.Ak.jY s).nm.size<=maxLen/\(Ks.Ak.jY s).lV.size<=maxLen/\(Ks.Ak.jY s).data.size<=maxLen:=by
 by_cases h:Ks.Ak.fZ s=0
 ·obtain⟨-,-,-,a,b,-,-,c⟩:=Ks.Ak.cG.1 (Ks.Ak.JO h).1;unfold maxLen;exact⟨qo,qo,qo⟩
 ·rw[(Ks.Ak.CV h).1];exact⟨MV _,MV _,MV _⟩
theorem Bm {S:Nat->Prop}(vi vo vz)(L)(x:Sh.iF)(v cl rq)(b)(w)(h:Ms S w vi vo vz L x)(hr:Mc.eP x cl rq=0)(hb:b.size<=1048576) :
  Calls Tryz.prog 34 #[iB vi vo vz x.dn,DH v cl rq b] w λe w'=>∃ ua un uc pa pn pc ea en ec L',e=.returned (.tuple #[iB (.slice ua un uc) (.slice pa pn pc) vz (Mc.Cy x cl b).dn,VR (Mc.CL x cl b) (.slice ea en ec)])/\Ms (λb=>S b\/w.1.size<=b) w' (.slice ua un uc) (.slice pa pn pc) vz L' (Mc.Cy x cl b)/\At EE (λb=>S b\/w.1.size<=b) w' (.slice ea en ec) (Mc.CL x cl b).cE/\Below w.1.size w w':=by
 obtain⟨⟨ia,im,ic,rfl⟩,⟨oa,om,oc,rfl⟩,za,zm,zc,rfl⟩:=h.mP
 have HF:Hid _:=Mc.x9 hr
 have HSV:Hid _:=Mc.vB hr b
 obtain⟨xL,xO,xZ,dn⟩:=x
 have HRE:Hid (Mc.CL ⟨xL,xO,xZ,dn⟩ cl b=if Ks.Ak.fZ b.data.toList=0 then Nf.kI xL xO dn cl (Ks.Ak.jY b.data.toList) else Nf.bad 413):=rfl
 have HSE:Hid (Mc.Cy ⟨xL,xO,xZ,dn⟩ cl b=if Ks.Ak.fZ b.data.toList=0 then ⟨Nf.EL xL xO dn cl (Ks.Ak.jY b.data.toList),Nf.Fi xL xO dn cl (Ks.Ak.jY b.data.toList),xZ,Nf.C3 xL xO dn cl⟩ else ⟨xL,xO,xZ,dn+1⟩):=rfl
 have HFC:Hid _:=Mc.fits b.data.toList
 have HUN:Hid (∀ V,Calls Tryz.prog 55 #[.string b] V λe w'=>e=.returned (.tuple #[Ks.VC (Ks.Ak.jY b.data.toList),.int .i64 (Ks.Ak.fZ b.data.toList)])/\Below V.1.size V w'):=λV=>Ks.vX b V hb
 generalize Mc.CL ⟨xL,xO,xZ,dn⟩ cl b=R at HRE HSV |-
 generalize Mc.Cy ⟨xL,xO,xZ,dn⟩ cl b=X at HSE HSV |-
 generalize Ks.Ak.jY b.data.toList=c at HRE HSE HUN HFC
 generalize Ks.Ak.fZ b.data.toList=ue at HRE HSE HUN
 obtain⟨W,hW⟩:∃ V,V=(((w.alloc (gB (.slice ia im ic) (.slice oa om oc) (.slice za zm zc) dn)).alloc (yP v cl rq b)).alloc sI).alloc fJ:=⟨_,rfl⟩
 have HN:Hid _:=pY w (gB (.slice ia im ic) (.slice oa om oc) (.slice za zm zc) dn) (yP v cl rq b) sI fJ
 rw[<-hW]at HN
 have HM:Hid _:=h.low.up HN.out.2.2.2.2.1
 obtain⟨y0,y1,y2,y3⟩:=iR HN.out.2.1
 rw[hW]at y0 y1 y2 y3
 clear h hr hb
 go_enter Tryz.func34,Tryz.ntmps34
 go_wp2_with fail
 rw[<-hW]
 clear hW y0 y1 y2 y3
 refine (HUN W).mono ?_
 rintro e w1 ⟨rfl,hb1⟩
 have HM1:Hid _:=HM.out.up hb1
 have H0:Hid _:=cK HN.out.1 hb1
 have H1:Hid _:=cK HN.out.2.1 hb1
 have H2:Hid _:=cK HN.out.2.2.1 hb1
 have H3:Hid _:=cK HN.out.2.2.2.1 hb1
 have HB1:Hid _:=HN.out.2.2.2.2.1.trans (hb1.mono HN.out.2.2.2.2.1.size)
 clear hb1 HM HN HUN
 obtain⟨W2,hW2⟩:∃ V,V=w1.alloc (Ks.BC c):=⟨_,rfl⟩
 have hb2:Below w1.1.size w1 W2:=by rw[hW2];exact (MJ _ _).alloc qn _
 have HC2:=hH<|show W2.heap[w1.heap.size]? = some (Ks.BC c) by rw[hW2];exact MD _ _
 have HM2:Hid _:=HM1.out.up hb2
 have G0:Hid _:=cK H0 hb2
 have G1:Hid _:=cK H1 hb2
 have G2:Hid _:=cK H2 hb2
 have G3:Hid _:=cK H3 hb2
 have HB2:=qJ HB1 hb2
 have HSZ:Hid _:=(qL H3)
 clear hb2 HM1 H0 H1 H2 H3 HB1
 obtain⟨x0,x1,x2,x3⟩:=dg G0
 obtain⟨y0,y1,y2,y3⟩:=iR G1
 obtain⟨z0,z1,z2,z3,z4,z5,z6,z7,z8,z9⟩:=Ks.dK HC2
 rw[hW2]at x0 x1 x2 x3 y0 y1 y2 y3 z0 z1 z2 z3 z4 z5 z6 z7 z8 z9
 by_cases hu:ue=0
 ·subst hu
  have HR:Hid (R=Nf.kI xL xO dn cl c/\X=⟨Nf.EL xL xO dn cl c,Nf.Fi xL xO dn cl c,xZ,Nf.C3 xL xO dn cl⟩):=⟨by rw[HRE.out,MC rfl],by rw[HSE.out,MC rfl]⟩
  have HDO:Hid (∀ V,Below W2.1.size W2 V->Calls Tryz.prog 56 #[iB (.slice ia im ic) (.slice oa om oc) (.slice za zm zc) dn,.int .i64 cl,Ks.VC c] V λe w'=>∃ ua un uc pa pn pc ea en ec L',e=.returned (.tuple #[iB (.slice ua un uc) (.slice pa pn pc) (.slice za zm zc) X.dn,VR R (.slice ea en ec)])/\Ms (λb=>(S b/\b<w.1.size)\/W2.1.size<=b) w' (.slice ua un uc) (.slice pa pn pc) (.slice za zm zc) L' X/\At EE (λb=>(S b/\b<w.1.size)\/W2.1.size<=b) w' (.slice ea en ec) R.cE/\Below V.1.size V w'):=λV hV=>by
   have hm:=HM2.out.up hV
   have hvs:=hV.size
   refine (Jf _ _ za zm zc dn cl c L xO V hm.tab hm.ops hm.ok HFC.out.1 HFC.out.2.1 HFC.out.2.2).mono ?_
   rintro e w' ⟨u,uo,ve,L',h1,h2,h3,h4,h5,h6⟩
   rw[show pl L=xL from hm.eq]at h1 h3 h4 h5
   obtain⟨a1,b1,e1,-,-⟩:=h2.open
   obtain⟨a2,b2,e2,-,-⟩:=h4.open
   obtain⟨a3,b3,e3,-,-⟩:=h5.open
   subst e1 e2 e3
   have hx:=HR.out.2
   have hrr:=HR.out.1
   have hsv:=HSV.out.1
   subst hx hrr
   exact⟨_,_,_,_,_,_,_,_,_,L',h1,⟨h2.imp (λb hb _=>hb.imp id (λh=>MS hvs h)),h3,DU h3 hsv,h4.imp (λb hb _=>hb.imp id (λh=>MS hvs h)),(hm.jB.up h6).imp (λb hb _=>.inl hb)⟩,h5.imp (λb hb _=>hb.imp id (λh=>MS hvs h)),h6⟩
  clear HRE HSE HFC
  go_wp2_with fail
  rw[<-hW2]
  clear hW2 x0 x1 x2 x3 y0 y1 y2 y3 z0 z1 z2 z3 z4 z5 z6 z7 z8 z9
  refine (HDO _ (MJ _ _)).mono ?_
  rintro e w3 ⟨ua,un,uc,pa,pn,pc,ea,en,ec,L',rfl,hm3,he3,hb3⟩
  have HM3:Hid _:=hm3
  have HE3:Hid _:=he3
  have K2:Hid _:=cK G2 hb3
  have K3:Hid _:=cK G3 hb3
  have HB3:=qJ HB2 hb3
  have HZ2:Hid _:=(qL G3)
  clear hm3 he3 hb3 HDO G0 G1 G2 G3 HC2 HM2 HB2
  obtain⟨a0,a1,a2,a3⟩:=dg K2
  have fa:=dw K2
  obtain⟨b0,b1,b2,b3,b4,b5,b6,b7,b8,b9⟩:=ev K3
  have fb:=dw K3
  go_wp2
  have hz:=HZ2.out
  refine MK (v:=.tuple #[iB (.slice ua un uc) (.slice pa pn pc) (.slice za zm zc) X.dn,VR R (.slice ea en ec)]) ?_ rfl ⟨ua,un,uc,pa,pn,pc,ea,en,ec,L',rfl,?_,?_,?_⟩
  ·rw[kP rfl]
   go_simp
  ·exact ((HM3.set (A:=w.1.size+2) (by rintro (h | h) <;> omega) 0 (cS (.slice ua un uc) (.slice pa pn pc) (.slice za zm zc) X.dn)).set (A:=w.1.size+3) (by rintro (h | h) <;> omega) 0 (cR R (.slice ea en ec))).imp λb hb _=>hb.imp And.left (λh=>by omega)
  ·exact (dB (A:=w.1.size+3) (by rintro (h | h) <;> omega) (cR R (.slice ea en ec)) 0 _ (dB (A:=w.1.size+2) (by rintro (h | h) <;> omega) (cS (.slice ua un uc) (.slice pa pn pc) (.slice za zm zc) X.dn) 0 _ HE3)).imp λb hb _=>hb.imp And.left (λh=>by omega)
  ·exact da qo (cR R (.slice ea en ec)) 0 _ (da qo (cS (.slice ua un uc) (.slice pa pn pc) (.slice za zm zc) X.dn) 0 _ HB3)
 ·have HR:Hid (R=Nf.bad 413/\X=⟨xL,xO,xZ,dn+1⟩):=⟨by rw[HRE.out,ME hu],by rw[HSE.out,ME hu]⟩
  have hd1:=IntWalk.i64_left (dn+1) ▸ IntWalk.i64_in _ (by have h1:=HF.out.1;have h2:=HF.out.2;omega)
  have t0:(ue != 0)=true:=by simp[hu]
  clear HRE HSE HFC HF
  have f0:=dw (show (w1.alloc (Ks.BC c)).1[w.1.size]?=some _ by rw[<-hW2];exact G0)
  go_wp2_with fail
  rw[<-hW2]
  have hz:=(qL G3)
  obtain⟨W4,hW4⟩:∃ V,V=W2.setCell ⟨w.1.size,3,none⟩ (.int .i64 (dn+1)):=⟨_,rfl⟩
  rw[<-hW4]
  have K0:=hH<|show W4.heap[w.heap.size]? = some (gB (.slice ia im ic) (.slice oa om oc) (.slice za zm zc) (dn + 1)) by
   rw[hW4]
   have:=ij G0 3 (.int .i64 (dn+1))
   simpa using this
  have off:∀ k,k≠w.1.size->W4.1[k]?=W2.1[k]?:=λk hk=>by rw[hW4];exact MM _ _ _ _ hk
  have K2:Hid _:=(off _ qo).trans G2
  have K3:Hid _:=(off _ qo).trans G3
  have HM4:Hid (Ms (λb=>S b/\b<w.1.size) W4 (.slice ia im ic) (.slice oa om oc) (.slice za zm zc) L X):=by
   have h1:=(HM2.set (A:=w.1.size) (by rintro ⟨-,h⟩;omega) 3 [.int .i64 (dn+1)]).dn (dn+1)
   have h2:=HR.out.2
   subst h2
   show Ms _ _ _ _ _ _ _
   rw[hW4]
   exact h1
  have HB4:=hH<|show Below w.heap.size w W4 by rw[hW4];exact HB2.setCell qn _
  have HXD:=hH<|show X.dn = dn + 1 by rw[HR.out.2]
  have HRR:Hid _:=HR.out.1
  clear hW4 hW2 off x0 x1 x2 x3 y0 y1 y2 y3 z0 z1 z2 z3 z4 z5 z6 z7 z8 z9 f0 G0 G1 G2 G3 HM2 HB2 HC2 HSZ HR t0 hu hd1
  have HS:=dg K0
  refine NX qk ?_
  change wpAny _ _ _ _ _ _ _ (World.drew _)
  refine Fst.iu (late:=λk=>[2,3].contains k) (S:=(λV:World=>V.cell? ⟨w.1.size,0,none⟩=some (.slice ia im ic)/\V.cell? ⟨w.1.size,1,none⟩=some (.slice oa om oc)/\V.cell? ⟨w.1.size,2,none⟩=some (.slice za zm zc)/\V.cell? ⟨w.1.size,3,none⟩=some (.int .i64 (dn+1)))) _ _ _ _ ?_
  refine Fst.tk (ls:=[2,3]) (i:=0) (v:=?v0) rfl (Or.inl ⟨by rfl,?h0⟩) HS ?r0
  case h0=>(rintro V ⟨s0,s1,s2,s3⟩;go_simp;try with_reducible rfl)
  try simp only[Act.put,qX,qY,qZ]
  clear HS
  refine Fst.one (late:=λk=>[2,3].contains k) (i:=1) qk rfl (λK hK=>?_)
  go_simp
  refine (pC _ _).mono ?_
  rintro e w5 ⟨rfl,hb5⟩
  have hb55:=dH hb5
  have HM5:Hid _:=HM4.out.up hb55
  have HB5:=qJ HB4 hb55
  have M2:Hid _:=cK K2 hb55
  have M3:Hid _:=cK K3 hb55
  have HS:=dg (cK K0 hb55)
  clear hb5 hb55 K0 K2 K3 HM4 HB4
  (try go_wp2_with fail)
  refine hK _ _ HS ?_
  clear hK K HS
  try simp only[Act.put,qX,qY,qZ]
  refine Fst.rest qk ?_
  obtain⟨a0,a1,a2,a3⟩:=dg M2
  have fa:=dw M2
  obtain⟨b0,b1,b2,b3,b4,b5,b6,b7,b8,b9⟩:=ev M3
  have fb:=dw M3
  refine Nc (rs:=[2]) qk qs ?_
  refine M7 rfl (λK hK=>?_) M9
  go_simp
  (try go_wp2_with fail)
  first | (refine hK _ _ ?_;clear hK K) | skip
  try simp only[Act.put,qX,qY,qZ]
  refine Nc (rs:=[3]) qk qs ?_
  refine M7 rfl (λK hK=>?_) M9
  go_simp
  (try go_wp2_with fail)
  first | (refine hK _ _ ?_;clear hK K) | skip
  try simp only[Act.put,qX,qY,qZ]
  refine N1 qk ?_ _
  go_wp2
  have hr':=HRR.out
  subst hr'
  rw[HXD.out]
  refine MK (v:=.tuple #[iB (.slice ia im ic) (.slice oa om oc) (.slice za zm zc) (dn+1),VR (Nf.bad 413) (.slice none 0 0)]) ?_ rfl ⟨ia,im,ic,oa,om,oc,none,0,0,L,rfl,?_,?_,?_⟩
  ·rw[kP rfl]
   go_simp
   try simp[Nf.bad]
  ·exact ((HM5.set (A:=w.1.size+2) (by rintro ⟨-,h⟩;omega) 0 (cS (.slice ia im ic) (.slice oa om oc) (.slice za zm zc) (dn+1))).set (A:=w.1.size+3) (by rintro ⟨-,h⟩;omega) 0 (cR (Nf.bad 413) (.slice none 0 0))).imp λb hb _=>.inl hb.1
  ·exact At.nil
  ·exact da qo (cR (Nf.bad 413) (.slice none 0 0)) 0 _ (da qo (cS (.slice ia im ic) (.slice oa om oc) (.slice za zm zc) (dn+1)) 0 _ HB5)
end Go.Proofs.YtiifhfmekbhlnaaGreat
namespace Go.Proofs.YtiifhfmekbhlnaaGreat.Es
open ChangeShapes WideShapes ChangeAt RowKit Deep
theorem at_one {w:World}{B:Nat}{x:fB}(h:w.1[B]?=some (BS x)):ey ES w (.slice (some ⟨B,0,none⟩) 1 1) [x]:=by
 refine .inr ⟨B,0,1,rfl,trivial,(MH.1 h).1,qs,qs,qd,λj u a=>?_⟩;simp only[World.cell?,h,Nat.zero_add];simpa [fY.flat,ES]using a
theorem vf (wr:World) (x:fB):ey ES ((wr.alloc (BS x)).alloc (BS x)) (.slice (some ⟨wr.heap.size+1,0,none⟩) 1 1) [x]:=by
 have b:=MD (wr.alloc (BS x)) (BS x);rw[show (wr.alloc (BS x)).1.size=wr.1.size+1 by simp]at b;exact at_one b
abbrev JK (X:Nat) (x:fB) (w:World):Prop:=w.cell? ⟨X,0,none⟩ = some (.int .i64 x.1)/\w.cell? ⟨X,1,none⟩ = some (.int .i64 x.2.1)/\w.cell? ⟨X,2,none⟩ = some (.string x.2.2)
theorem tW {X:Nat}{x:fB}{w w':World}(h:JK X x w)(hb:Bw w w'):JK X x w':=⟨cC h.1 hb,cC h.2.1 hb,cC h.2.2 hb⟩
theorem fg {X:Nat}{x:fB}{w:World}(h:JK X x w)(o):JK X x (w.alloc o):=tW h (qG _ _)
theorem kg {X:Nat}{x:fB}{w:World}(h:JK X x w):JK X x w.drew:=h
theorem uZ (w1:World)(v1 v3:Value)(l1 l3:List fB)(x:fB)(h1:ey ES w1 v1 l1)(h3:ey ES w1 v3 l3)(hl:l1.length+1+l3.length<=2199023255552) :
  Calls Tryz.prog 58 #[.slice (some ⟨w1.1.size+1+1,0,none⟩) 3 3] (((w1.alloc (BS x)).alloc (BS x)).alloc (.cells #[v1,.slice (some ⟨w1.1.size+1,0,none⟩) 1 1,v3] 27)).drew
   λe w'=>∃ u,e=.returned u/\Row ES w' (w1.heap.size+1+1+1) 47 u (l1++[x]++l3)/\Below (((w1.alloc (BS x)).alloc (BS x)).alloc (.cells #[v1,.slice (some ⟨w1.heap.size+1,0,none⟩) 1 1,v3] 27)).drew.heap.size (((w1.alloc (BS x)).alloc (BS x)).alloc (.cells #[v1,.slice (some ⟨w1.heap.size+1,0,none⟩) 1 1,v3] 27)).drew w':=by
 have b:=MD ((w1.alloc (BS x)).alloc (BS x)) (.cells #[v1,.slice (some ⟨w1.heap.size+1,0,none⟩) 1 1,v3] 27);have c:((w1.alloc (BS x)).alloc (BS x)).heap.size=w1.heap.size+1+1:=by simp
 rw[c]at b;have a:Bw w1 (((w1.alloc (BS x)).alloc (BS x)).alloc (.cells #[v1,.slice (some ⟨w1.1.size+1,0,none⟩) 1 1,v3] 27)):=((qG _ _).alloc (by simp) _).alloc (by simp;omega) _;have d:=(vf w1 x).up ((MJ _ _).alloc qn (.cells #[v1,.slice (some ⟨w1.1.size+1,0,none⟩) 1 1,v3] 27));have f:(((w1.alloc (BS x)).alloc (BS x)).alloc (.cells #[v1,.slice (some ⟨w1.1.size+1,0,none⟩) 1 1,v3] 27)).1.size=w1.1.size+1+1+1:=qs
 have g:=h1.up a;have h:=h3.up a;generalize ((w1.alloc (BS x)).alloc (BS x)).alloc (.cells #[v1,.slice (some ⟨w1.1.size+1,0,none⟩) 1 1,v3] 27)=w3 at *;have i:=mV (w1.1.size+1+1) v1 _ v3 l1 [x] l3 w3.drew (by show _<w3.1.size;omega) (by simp only[World.cell?];rw[show w3.drew.1[w1.1.size+1+1]?=w3.1[w1.1.size+1+1]? from rfl,b];rfl) (by simp only[World.cell?];rw[show w3.drew.1[w1.1.size+1+1]?=w3.1[w1.1.size+1+1]? from rfl,b];rfl) (by simp only[World.cell?];rw[show w3.drew.1[w1.1.size+1+1]?=w3.1[w1.1.size+1+1]? from rfl,b];rfl) g d h (by simpa using hl);refine i.mono ?_;rintro e l ⟨u,rfl,j,k⟩;refine⟨u,rfl,?_,k⟩;rw[<-f];exact j
theorem qh (v : Value) (l : List fB) (c r : Int) (s : ByteArray) (w : World) (hv : ey ES w v l) :
    Calls Tryz.prog 35 #[v,.int .i64 c,.int .i64 r,.string s] w λe w'=>∃ p n q,e = .returned (.tuple #[.slice p n q,.int .i64 (Se.dM l c r s)])/\At ES (λb=>w.heap.size<=b) w' (.slice p n q) (Se.put l c r s)/\Below w.heap.size w w':=by
  have hv0:=hv
  obtain ⟨ao,cap,rfl,hm,-⟩:=hv0.open
  clear hv0
  unfold maxLen at hm
  obtain ⟨m,hlm⟩:∃ m,l.length = m:=⟨_,rfl⟩
  rw [hlm] at hm hv |-
  have HLM:Hid (l.length=m):=hlm
  have HV:Hid (ey ES w (.slice ao m cap) l):=hv
  clear hlm hv
  by_cases he:Se.dM l c r s = 0
  · have HE : Hid (Se.dM l c r s = 0) := he
    have HO:Hid (Se.ok l = true):=by
      have h0:=(Se.xB he).1
      rcases Se.tH l c r with ⟨_,_,h,_⟩ | ⟨_,_,h,_⟩ | ⟨h,h2⟩
      · exact h
      · exact h
      · omega
    have hm6:=Se.kl HO.out
    rw [HLM.out] at hm6
    have HPT:Hid (Se.put l c r s=l.filter (λx=>decide (x.1<c))++[(c,r,s)]++l.filter (λx=>decide (c<x.1))):=MC he
    have hfm:=Se.yG l c
    have HTK:Hid (l.take (Se.gy l c)=l.filter (λx=>decide (x.1<c))):=Se.tP l c (Se.fh HO.out)
    obtain ⟨f,hf⟩:∃ f,Se.gy l c = f:=⟨_,rfl⟩
    have HLF:Hid (Se.gy l c=f):=hf
    rw [hf] at HTK hfm
    rw [HLM.out] at hfm
    have hcap:f<=cap:=by
      by_cases h0:0 < m
      · have := HV.out.JN h0
        omega
      · omega
    obtain ⟨q1,c1,hs1⟩:∃ q cc,sliced ao 0 f cap ES.sz = .slice q f cc:=⟨_,_,rfl⟩
    have hsl1:∀ w',(Instr.slice 27 (.slice ao m cap) none (some (.int .i64 (f:Int))) none).run Tryz.prog w' = .ok (.slice q1 f c1) w':=λw'=>by rw [mi w' _ m cap f hcap,hs1]
    obtain ⟨q2,n2,c2,xo⟩:∃ q n cc,sliced ao f m cap ES.sz = .slice q n cc:=⟨_,_,_,rfl⟩
    have hsl2:∀ w',(Instr.slice 27 (.slice ao m cap) (some (.int .i64 (f:Int))) none none).run Tryz.prog w' = .ok (.slice q2 n2 c2) w':=λw'=>by rw [kF w' _ m cap f hfm,xo]
    have HCUT1:Hid (∀ w',ey ES w' (.slice ao m cap) l->ey ES w' (.slice q1 f c1) (l.take f)):=λw' h=>by
      have g1:=h.Ju (lo:=0) (hi:=f) (MV _) hfm
      rw [hs1] at g1
      simpa using g1
    rw [he]
    cases hse:Se.gu l c with
    | none =>
      have HI:Hid ((Se.gu l c).isSome=false):=by show (Se.gu l c).isSome=false;rw [hse];rfl
      have HDR:Hid (l.drop f = l.filter (λx=>decide (c < x.1))):=by
        have:=Se.Ex (Se.fh HO.out) hse
        rwa [hf] at this
      have HCUT2:Hid (∀ w',ey ES w' (.slice ao m cap) l->ey ES w' (.slice q2 n2 c2) (l.drop f)):=λw' h=>by
        have g2:=h.Ju (lo:=f) (hi:=m) hfm (MI _)
        rw [xo,<-HLM.out,Ns] at g2
        exact g2
      have HKL:Hid ((l.take f).length+1+(l.drop f).length<=2199023255552):=by
        show (l.take f).length+1+(l.drop f).length<=2199023255552
        have:=HLM.out
        simp only [List.length_take,List.length_drop]
        omega
      clear he hf hs1 xo hm hse
      go_enter Tryz.func35,Tryz.ntmps35
      go_wp2_with fail
      refine (lO _ l c r s _ HV.out).mono ?_
      rintro e w1 ⟨rfl,hb⟩
      rw [HE.out]
      have HB1:Hid (Below w.1.size w w1):=hb
      have HV1:Hid (ey ES w1 (.slice ao m cap) l):=HV.out.up hb
      clear hb
      go_wp2_with fail
      refine (fV _ l c _ HV1.out (Se.fh HO.out) (Se.kl HO.out)).mono ?_
      rintro e w2 ⟨rfl,hb⟩
      rw [HLF.out,HI.out]
      have HB2:=hH<|HB1.out.trans (hb.mono HB1.size)
      have HV2:Hid (ey ES w2 (.slice ao m cap) l):=HV1.out.up hb
      have hsz2:=HB2.out.size
      have HSS:Hid (JK w2.1.size (c,r,s) (w2.alloc (BS (c,r,s)))):=(GZ (MD w2 (BS (c,r,s)))).1
      clear hb
      go_wp2_with fail
      go_region_held3 (λw'=>w'.cell? ⟨w2.heap.size,0,none⟩ = some (.int .i64 c)/\w'.cell? ⟨w2.heap.size,1,none⟩ = some (.int .i64 r)/\w'.cell? ⟨w2.heap.size,2,none⟩ = some (.string s)) (first | exact HSS.out | exact kg HSS.out | exact kg (fg HSS.out _) | exact kg (fg (fg HSS.out _) _) | exact fg HSS.out _ | exact fg (fg HSS.out _) _ | exact tW (kg (fg (fg HSS.out _) _)) (by assumption)) (first
        | (go_at_call 58;refine (uZ w2 _ _ (l.take f) (l.drop f) (c,r,s) (HCUT1.out _ HV2.out) (HCUT2.out _ HV2.out) HKL.out).mono ?_;rintro e w5 ⟨u,rfl,hr,hb5⟩;obtain ⟨pu,nu,cu,rfl⟩:=hr.CH))
      have HEND:Hid (At ES (λb=>w.heap.size<=b) w5 (.slice pu nu cu) (Se.put l c r s)/\Below w.heap.size w w5):=by
        have h:=hr.at.imp (T:=λb=>w.heap.size<=b) (λb hb _=>by omega)
        rw [HTK.out,HDR.out,<-HPT.out] at h
        have h3:Below w.1.size w (((w2.alloc (BS (c,r,s))).alloc (BS (c,r,s))).alloc (.cells #[.slice q1 f c1,.slice (some ⟨w2.1.size+1,0,none⟩) 1 1,.slice q2 n2 c2] 27)):=((HB2.out.alloc (by omega) _).alloc (by simp;omega) _).alloc (by simp;omega) _
        exact ⟨h,h3.trans ((dH hb5).mono h3.size)⟩
      clear hr hb5
      go_wp2
      go_ret2
      exact ⟨_,_,_,rfl,HEND.out.1,HEND.out.2⟩
    | some y =>
      have HI:Hid ((Se.gu l c).isSome=true):=by show (Se.gu l c).isSome=true;rw [hse];rfl
      have hfl:f + 1<=m:=by
        have:=(MN.1 (Se.mw (Se.fh HO.out) hse)).1
        rw [hf,HLM.out] at this
        exact this
      have HDR:Hid (l.drop (f + 1) = l.filter (λx=>decide (c < x.1))):=by
        have:=Se.yW (Se.fh HO.out) hse
        rwa [hf] at this
      obtain ⟨q3,n3,c3,hs3⟩:∃ q n cc,sliced ao (f + 1) m cap ES.sz = .slice q n cc:=⟨_,_,_,rfl⟩
      have hsl3:∀ w',(Instr.slice 27 (.slice ao m cap) (some (.int .i64 ((f:Int) + 1))) none none).run Tryz.prog w' = .ok (.slice q3 n3 c3) w':=λw'=>by
        have:=kF w' ao m cap (f + 1) hfl
        rw [hs3] at this
        exact this
      have HCUT2:Hid (∀ w',ey ES w' (.slice ao m cap) l->ey ES w' (.slice q3 n3 c3) (l.drop (f + 1))):=λw' h=>by
        have g2:=h.Ju (lo:=f + 1) (hi:=m) hfl (MI _)
        rw [hs3,<-HLM.out,Ns] at g2
        exact g2
      have HKL:Hid ((l.take f).length+1+(l.drop (f+1)).length<=2199023255552):=by
        show (l.take f).length+1+(l.drop (f+1)).length<=2199023255552
        have:=HLM.out
        simp only [List.length_take,List.length_drop]
        omega
      clear he hf hs1 xo hs3 hm hse
      go_enter Tryz.func35,Tryz.ntmps35
      go_wp2_with fail
      refine (lO _ l c r s _ HV.out).mono ?_
      rintro e w1 ⟨rfl,hb⟩
      rw [HE.out]
      have HB1:Hid (Below w.1.size w w1):=hb
      have HV1:Hid (ey ES w1 (.slice ao m cap) l):=HV.out.up hb
      clear hb
      go_wp2_with fail
      refine (fV _ l c _ HV1.out (Se.fh HO.out) (Se.kl HO.out)).mono ?_
      rintro e w2 ⟨rfl,hb⟩
      rw [HLF.out,HI.out]
      have HB2:=hH<|HB1.out.trans (hb.mono HB1.size)
      have HV2:Hid (ey ES w2 (.slice ao m cap) l):=HV1.out.up hb
      have hsz2:=HB2.out.size
      have HSS:Hid (JK w2.1.size (c,r,s) (w2.alloc (BS (c,r,s)))):=(GZ (MD w2 (BS (c,r,s)))).1
      clear hb
      go_wp2_with fail
      go_region_held3 (λw'=>w'.cell? ⟨w2.heap.size,0,none⟩ = some (.int .i64 c)/\w'.cell? ⟨w2.heap.size,1,none⟩ = some (.int .i64 r)/\w'.cell? ⟨w2.heap.size,2,none⟩ = some (.string s)) (first | exact HSS.out | exact kg HSS.out | exact kg (fg HSS.out _) | exact kg (fg (fg HSS.out _) _) | exact fg HSS.out _ | exact fg (fg HSS.out _) _ | exact tW (kg (fg (fg HSS.out _) _)) (by assumption)) (first
        | (go_at_call 58;refine (uZ w2 _ _ (l.take f) (l.drop (f + 1)) (c,r,s) (HCUT1.out _ HV2.out) (HCUT2.out _ HV2.out) HKL.out).mono ?_;rintro e w5 ⟨u,rfl,hr,hb5⟩;obtain ⟨pu,nu,cu,rfl⟩:=hr.CH))
      have HEND:Hid (At ES (λb=>w.heap.size<=b) w5 (.slice pu nu cu) (Se.put l c r s)/\Below w.heap.size w w5):=by
        have h:=hr.at.imp (T:=λb=>w.heap.size<=b) (λb hb _=>by omega)
        rw [HTK.out,HDR.out,<-HPT.out] at h
        have h3:Below w.1.size w (((w2.alloc (BS (c,r,s))).alloc (BS (c,r,s))).alloc (.cells #[.slice q1 f c1,.slice (some ⟨w2.1.size+1,0,none⟩) 1 1,.slice q3 n3 c3] 27)):=((HB2.out.alloc (by omega) _).alloc (by simp;omega) _).alloc (by simp;omega) _
        exact ⟨h,h3.trans ((dH hb5).mono h3.size)⟩
      clear hr hb5
      go_wp2
      go_ret2
      exact ⟨_,_,_,rfl,HEND.out.1,HEND.out.2⟩
  · have HPT : Hid (Se.put l c r s = []) := ME he
    obtain ⟨a,ha⟩:∃ a,Se.dM l c r s = a:=⟨_,rfl⟩
    rw [ha] at he |-
    have HA:Hid (Se.dM l c r s=a):=ha
    have hne:(a != 0) = true:=by simpa using he
    clear he ha
    go_enter Tryz.func35,Tryz.ntmps35
    go_wp2_with fail
    refine (lO _ l c r s _ HV.out).mono ?_
    rintro e w1 ⟨rfl,hb⟩
    rw [HA.out]
    go_wp2
    go_ret2
    exact ⟨_,_,_,rfl,by rw [HPT.out];exact At.nil,hb⟩
end Go.Proofs.YtiifhfmekbhlnaaGreat.Es
namespace Go.Proofs.YtiifhfmekbhlnaaGreat
open ChangeShapes WideShapes ChangeAt RowKit Deep It
theorem xu (w)(o p q):(((w.alloc o).alloc p).alloc q).1[w.1.size]?=some o/\(((w.alloc o).alloc p).alloc q).1[w.1.size+1]?=some p/\(((w.alloc o).alloc p).alloc q).1[w.1.size+2]?=some q/\Bw w (((w.alloc o).alloc p).alloc q)/\(((w.alloc o).alloc p).alloc q).1.size=w.1.size+3:=by
 obtain⟨b,c,d⟩:=xR w o p;have a:((w.alloc o).alloc p).1.size=w.1.size+2:=qs
 refine⟨(ML _ _ _ qo).trans b,(ML _ _ _ qo).trans c,?_,d.alloc qo _,qs⟩;have h:=MD ((w.alloc o).alloc p) q
 rwa [a]at h
theorem xS {S:Nat->Prop}(vi vo vz)(L)(x:Sh.iF)(v cl rq)(b)(w)(h:Ms S w vi vo vz L x)(hr:Mc.eP x cl rq=0)(hb:b.size<=1048576) :
  Calls Tryz.prog 19 #[iB vi vo vz x.dn,DH v cl rq b] w λe w'=>∃ ua un uc pa pn pc qa qn qc L',e=.returned (.tuple #[iB (.slice ua un uc) (.slice pa pn pc) (.slice qa qn qc) (Mc.JD x cl rq b).dn,.string (Mc.vH x cl b)])/\Ms (λb=>S b\/w.1.size<=b) w' (.slice ua un uc) (.slice pa pn pc) (.slice qa qn qc) L' (Mc.JD x cl rq b)/\Bw w w':=by
 obtain⟨⟨ia,im,ic,rfl⟩,⟨oa,om,oc,rfl⟩,j,l,m,rfl⟩:=h.mP;have aa:Hid _:=IG h cl b;have G:=hH<|show (Mc.Cy x cl b).Z=x.Z by
  unfold Mc.Cy;split <;> rfl
 have U:Hid (Mc.JD x cl rq b = { Mc.Cy x cl b with Z:=Es.Se.put x.Z cl rq (Mc.vH x cl b) }):=rfl;have N:Hid (Mc.vH x cl b=Mc.bytes (Mc.CL x cl b)):=rfl;obtain⟨W,hW⟩:=qF (((w.alloc (gB (.slice ia im ic) (.slice oa om oc) (.slice j l m) x.dn)).alloc (yP v cl rq b)).alloc sI);have o:Hid _:=xu w (gB (.slice ia im ic) (.slice oa om oc) (.slice j l m) x.dn) (yP v cl rq b) sI;rw[<-hW]at o;have z:=hH<|Bm _ _ _ L x v cl rq b W (h.low.up o.out.2.2.2.1) hr hb;generalize Mc.JD x cl rq b=Y at U |-;generalize Mc.vH x cl b=rs at U N |-;generalize Mc.Cy x cl b=X at G U z;generalize Mc.CL x cl b=R at aa N z;obtain⟨xL,xO,xZ,dn⟩:=x;obtain⟨H,I,J,K⟩:=dg o.out.1;obtain⟨y0,y1,y2,y3⟩:=iR o.out.2.1;rw[hW]at H I J K y0 y1 y2 y3;clear h hr hb;go_enter Tryz.func19,Tryz.ntmps19;go_wp2_with fail;rw[<-hW];clear hW H I J K y0 y1 y2 y3;refine z.mono ?_;rintro e B ⟨ua,un,uc,pa,pn,pc,C,D,E,L',rfl,am,an,f⟩;have hz:=o.out.2.2.2.2;have ab:=f.size;have K0:Hid _:=cK o.out.1 f;have K1:Hid _:=cK o.out.2.1 f;have K2:Hid _:=cK o.out.2.2.1 f;have O:Hid _:=o.out.2.2.2.1.trans (f.mono o.out.2.2.2.1.size);have ac:Hid _:=am;have ad:=hH an;clear am an o z;obtain⟨F,r⟩:=qF B.1.size;obtain⟨y,g⟩:=qF (B.alloc fJ);have a:Bw B y:=by rw[g];exact qG _ _
 have G0:=hH<|cK K0 a;have G3:=hH<|show y.heap[F]?=some fJ by rw[g,r];exact MD _ _
 obtain⟨H,I,J,K⟩:=dg G0;have f0:=dw G0;obtain⟨b0,b1,b2,b3,b4,b5,b6,b7,b8,b9⟩:=ev G3;have fb:=dw G3;rw[g]at H I J K b0 b1 b2 b3 b4 b5 b6 b7 b8 b9;rw[r]at b0 b1 b2 b3 b4 b5 b6 b7 b8 b9;simp only[g]at f0 fb;simp only[r]at fb;have ap:w.1.size≠B.1.size:=qo
 have aq:B.1.size<y.1.size:=by have:=(qL G3);omega
 obtain⟨s,c⟩:=qF ((y.setCells w.1.size 0 (cS (.slice ua un uc) (.slice pa pn pc) (.slice j l m) X.dn)).setCells F 0 (cR R (.slice C D E)));have G1:=hH<|cK K1 a;have G2:=hH<|cK K2 a;have P:∀ k,k≠w.1.size->k≠F->s.1[k]?=y.1[k]?:=λk d h2=>by rw[c];exact (dq _ _ _ h2).trans (dq _ _ _ d)
 have I0:=hH<|show s.heap[w.heap.size]?=some (gB (.slice ua un uc) (.slice pa pn pc) (.slice j l m) X.dn) by
  rw[c];exact (dq _ _ _ qo).trans (dO (cS (.slice ua un uc) (.slice pa pn pc) (.slice j l m) X.dn) G0 rfl)
 have I1:=hH<|(P _ qo qo).trans G1;have I2:=hH<|(P _ qo qo).trans G2;have af:=hH<|show Ms (λb=>(S b/\b<w.heap.size)\/(W.heap.size<=b/\b≠F)) s (.slice ua un uc) (.slice pa pn pc) (.slice j l m) L' X by
  rw[c];have d:=(ac.imp (T:=λb=>(S b/\b<w.1.size)\/(W.1.size<=b/\b≠F)) λb hb hl=>hb.imp id λh=>⟨h,qo⟩).up a;exact (d.set (by rintro (h | h) <;> omega) _ _).set (by rintro (h | h) <;> omega) _ _
 have ag:=hH<|show At EE (λb=>(S b/\b<w.heap.size)\/(W.heap.size<=b/\b≠F)) s (.slice C D E) R.cE by
  rw[c];have d:=(ad.imp (T:=λb=>(S b/\b<w.1.size)\/(W.1.size<=b/\b≠F)) λb hb hl=>hb.imp id λh=>⟨h,qo⟩).up a;exact dB (by rintro (h | h) <;> omega) _ _ _ (dB (by rintro (h | h) <;> omega) _ _ _ d)
 have ah:=hH<|show Bw w s by
  rw[c];exact da qo _ _ _ (da qn _ _ _ (O.trans (a.mono O.size)))
 have hc:=sh R (.slice C D E) s ag.wide aa;rw[<-N.out]at hc;have HC:Hid (∀ V,V=s->Calls Tryz.prog 20 #[VR R (.slice C D E)] V λe w'=>e=.returned (.string rs)/\Bw s w'):=λV hV=>by rw[hV];exact hc
 have HQ:Hid (s=(y.setCells w.1.size 0 (cS (.slice ua un uc) (.slice pa pn pc) (.slice j l m) X.dn)).setCells F 0 (cR R (.slice C D E))/\y=B.alloc fJ/\F=B.1.size):=⟨c,g,r⟩;have HZ:Hid (W.1.size=w.1.size+3/\W.1.size<=B.1.size):=⟨hz,ab⟩;clear hc P G0 G1 G2 G3 K0 K1 K2 ac ad O c a aq hz ab f;go_wp2_with fail;refine (HC _ (by rw[HQ.out.1,HQ.out.2.1,HQ.out.2.2];rfl)).mono ?_;rintro e M ⟨rfl,i⟩;have Q:Hid _:=af.out.up i;have J0:Hid _:=cK I0 i;have J1:Hid _:=cK I1 i;have J2:Hid _:=cK I2 i;have ai:=qJ ah i;have ar:Hid (w.1.size+3<=M.1.size):=by
  have d:=(qL J2);show _<=_;omega
 clear i af ag ah I0 I1 I2 HC HQ H I J K f0 b0 b1 b2 b3 b4 b5 b6 b7 b8 b9 fb ap g r;obtain⟨H,I,J,K⟩:=dg J0;obtain⟨y0,y1,y2,y3⟩:=iR J1;have aj:Hid (Calls Tryz.prog 35 #[.slice j l m,.int .i64 cl,.int .i64 rq,.string rs] M λe w'=>∃ p n q,e=.returned (.tuple #[.slice p n q,.int .i64 (Es.Se.dM xZ cl rq rs)])/\At Es.ES (λb=>M.1.size<=b) w' (.slice p n q) (Es.Se.put xZ cl rq rs)/\Bw M w'):=by
  have d:=Q.out.jB;rw[show X.Z=xZ from G]at d;exact Es.qh _ xZ cl rq rs M d.wide
 go_wp2_with fail;refine aj.mono ?_;rintro e w5 ⟨qa,qn,qc,rfl,ao,t⟩;have ak:Hid _:=Q.out.up t;have al:Hid _:=ao;have M0:Hid _:=cK J0 t;have M2:Hid _:=cK J2 t;have au:=qJ ai t;clear ao t aj Q ai J0 J1 J2 H I J K y0 y1 y2 y3;obtain⟨H,I,J,K⟩:=dg M0;have f0:=dw M0;obtain⟨a0,a1,a2,a3⟩:=dg M2;have fa:=dw M2;have aA:w.1.size≠w.1.size+2:=qo
 have hz:=ar.out;have aB:=HZ.out.1;obtain⟨WF,u⟩:=qF ((w5.setCell ⟨w.1.size,2,none⟩ (.slice qa qn qc)).setCells (w.1.size+2) 0 (cS (.slice ua un uc) (.slice pa pn pc) (.slice qa qn qc) X.dn));have av:=hH<|show WF.heap[w.heap.size+2]?=some (gB (.slice ua un uc) (.slice pa pn pc) (.slice qa qn qc) X.dn) by
  rw[u];exact dO (cS (.slice ua un uc) (.slice pa pn pc) (.slice qa qn qc) X.dn) ((MM _ _ _ _ (by show w.1.size+2≠w.1.size;omega)).trans M2) rfl
 have aw:Hid (Ms (λb=>S b\/w.1.size<=b) WF (.slice ua un uc) (.slice pa pn pc) (.slice qa qn qc) L' Y):=by
  have d:=(ak.set (A:=w.1.size) (by rintro (h | ⟨h,-⟩) <;> omega) 2 [.slice qa qn qc]).set (A:=w.1.size+2) (by rintro (h | ⟨h,-⟩) <;> omega) 0 (cS (.slice ua un uc) (.slice pa pn pc) (.slice qa qn qc) X.dn);have h2:=dB (A:=w.1.size+2) (by show ¬ M.1.size<=w.1.size+2;omega) (cS (.slice ua un uc) (.slice pa pn pc) (.slice qa qn qc) X.dn) 0 _ (dB (A:=w.1.size) (by show ¬ M.1.size<=w.1.size;omega) [.slice qa qn qc] 2 _ al);have hx:=U.out;subst hx;show Ms _ _ _ _ _ _ _;rw[u];exact⟨d.tab.imp λb hb _=>hb.imp And.left (λh=>by omega),d.eq,d.ok,d.ops.imp λb hb _=>hb.imp And.left (λh=>by omega),h2.imp λb hb _=>.inr (by show w.1.size<=b;have h3:=hb;omega)⟩
 have ax:=hH<|show Bw w WF by
  rw[u];exact da qo _ _ _ (au.setCell (MI _) _)
 have ay:=hH<|show Y.dn=X.dn by rw[U.out]
 have az:=hH<|show ((((w5.setCell ⟨w.heap.size,2,none⟩ (.slice qa qn qc)).setCell ⟨w.heap.size+2,0,none⟩ (.slice ua un uc)).setCell ⟨w.heap.size+2,1,none⟩ (.slice pa pn pc)).setCell ⟨w.heap.size+2,2,none⟩ (.slice qa qn qc)).setCell ⟨w.heap.size+2,3,none⟩ (.int .i64 X.dn)=WF by rw[u];rfl
 clear u ak al U M0 M2;go_wp2
 rw[az.out,ay.out];obtain⟨d0,d1,d2,d3⟩:=dg av;refine MK (v:=.tuple #[iB (.slice ua un uc) (.slice pa pn pc) (.slice qa qn qc) X.dn,.string rs]) (by simp[results,Tryz.results19,go_sem,d0,d1,d2,d3]) rfl ⟨ua,un,uc,pa,pn,pc,qa,qn,qc,L',rfl,aw,ax⟩
end Go.Proofs.YtiifhfmekbhlnaaGreat
