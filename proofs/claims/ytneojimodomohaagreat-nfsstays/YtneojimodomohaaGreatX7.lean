/- NHe, NRj, NfStays, as one. -/
import Derived.Test.YtneojimodomohaaGreatX6
set_option maxHeartbeats 8000000
set_option maxRecDepth 100000
set_option linter.unusedSimpArgs false
namespace Go.Proofs.YtneojimodomohaaGreat
open Go.ChangeShapes Go.WideShapes Go.ChangeAt Go.RowKit Go.Deep It
theorem rheld_any (v:Value) (O:List Os.Opn) (no gen:Int) (w:World) (hv:AtW Os.EO w v O) :
  Calls Tryz.prog 37 #[v,.agg #[.int .i64 no,.int .i64 gen]] w fun e w'=>e = .returned (.bool (decide (0 < Os.Op.held O no gen)))/\Bw w w':=by
 obtain ⟨ao,cap,rfl,hm,hx⟩:=hv.open;clear hv;unfold maxLen at hm;obtain ⟨n,hn⟩:=qE O.length;rw [hn] at hm ⊢;have HN:Hid _:=hn;have HX:Hid _:=hx;obtain ⟨r,hr⟩:=qE (decide (0 < Os.Op.held O no gen));rw [hr];have HR:Hid _:=hr;obtain ⟨W,hW⟩:=qF (w.alloc (BH no gen));have HB0:Hid _:=qB hW;have HA0:Hid _:=qC hW;have hwW:w.heap.size < W.heap.size:=(qL HA0.out);clear hn hx hr;go_enter Tryz.func37,Tryz.ntmps37;go_wp2_with fail;rw [← hW];clear hW;go_loopw [9] (fun i wr=>∃ k:Nat,k<=n/\i = .int .i64 k/\Hid (Os.Op.held O no gen = Os.Op.held (O.drop k) no gen)/\Hid (Bw W wr)) (fun i _=>n - (intOf i).toNat)
 case atStart=>exact ⟨0,Nat.zero_le _,rfl,rfl,Below.refl _ _⟩
 case round =>
  obtain ⟨k,hk,rfl,HP,HB⟩:=hrel;have hsz:=HB.out.size
  by_cases hlt:k < n
  ·obtain ⟨x,hxk⟩:∃ x,O[k]? = some x:=⟨_,List.getElem?_eq_getElem (by rw [HN.out];exact hlt)⟩;obtain ⟨b,off,rfl,-,hbl,hc⟩:=HX.out k x hxk;have hbw:=HB0.out.trans (HB.out.mono HB0.out.size);obtain ⟨x0,x1,x2,x3⟩:=x;have aa:=fun j u hj=>(hbw.cell (p:=⟨b,off + (k * Os.EO.sz + j),none⟩) hbl).trans (hc j u hj)
   have c0:wr.cell? ⟨b,off + k * 4,none⟩ = some (.int .i64 x0):=aa 0 _ rfl;have c1:wr.cell? ⟨b,off + k * 4 + 1,none⟩ = some (.int .i64 x1):=aa 1 _ rfl;have c2:wr.cell? ⟨b,off + k * 4 + 2,none⟩ = some (.int .i64 x2):=aa 2 _ rfl;have c3:wr.cell? ⟨b,off + k * 4 + 3,none⟩ = some (.int .i64 x3):=aa 3 _ rfl;have HD:Hid _:=Os.Op.drop_at hxk;have HAr:Hid _:=(HB.out.block _ hwW).trans HA0.out;obtain ⟨⟨h0,h1⟩,-⟩:=two_of HAr.out;have hlw:w.heap.size < wr.heap.size:=(qL HAr.out);have hlt':(k:Int) < (n:Int):=by omega
   have HBn:Hid (Bw W (wr.alloc (Os.BO (x0,x1,x2,x3)))):=HB.out.alloc hsz _;have HBz:Hid (Bw w (wr.alloc (Os.BO (x0,x1,x2,x3)))):=hbw.alloc (by have h:=hbw.size;exact h) _;clear aa hc hxk hbw
   by_cases e1:x2 = no
   ·by_cases e2:x3 = gen
    ·have hr1:r = true:=by
      rw [← HR.out,HP.out,HD.out];unfold Os.Op.held;rw [List.countP_cons];simp [e1,e2]
     subst e1 e2 hr1;go_wp2;go_ret;exact ⟨rfl,HBz.out⟩
    ·have t1:(x3 == gen) = false:=by simpa using e2
     have HP2:Hid (Os.Op.held O no gen = Os.Op.held (O.drop (k + 1)) no gen):=by
      show _ = _;rw [HP.out,HD.out];unfold Os.Op.held;rw [List.countP_cons];simp [e2]
     subst e1;go_wp2
     go_roundw
     case rel=>exact ⟨k + 1,by omega,by go_num,HP2,HBn⟩
     case measure=>simp [intOf];omega
   ·have t1:(x2 == no) = false:=by simpa using e1
    have HP2:Hid (Os.Op.held O no gen = Os.Op.held (O.drop (k + 1)) no gen):=by
     show _ = _;rw [HP.out,HD.out];unfold Os.Op.held;rw [List.countP_cons];simp [e1]
    go_wp2
    go_roundw
    case rel=>exact ⟨k + 1,by omega,by go_num,HP2,HBn⟩
    case measure=>simp [intOf];omega
  ·obtain rfl:k = n:=by omega
   have hr0:r = false:=by
    rw [← HR.out,HP.out,List.drop_of_length_le (by rw [HN.out];exact Nat.le_refl _)];rfl
   subst hr0;have HBZ:=qJ HB0 HB.out;go_wp2;go_ret;exact ⟨rfl,HBZ.out⟩
noncomputable def Nf.askB (r1 r2:Bool) (y t dn:Int):Bool:=r1 && (r2 && (decide (y<=8192) && (decide (0<=dn) && (decide (dn<=1099511627776) && decide (t<=dn)))))
theorem bo_of {w:World} {A:Nat} {a b c d:Int} (h:w.heap[A]? = some (Os.BO (a,b,c,d))) :
  w.cell? ⟨A,0,none⟩ = some (.int .i64 a)/\w.cell? ⟨A,1,none⟩ = some (.int .i64 b)/\w.cell? ⟨A,2,none⟩ = some (.int .i64 c)/\w.cell? ⟨A,3,none⟩ = some (.int .i64 d):=by
 refine ⟨?_,?_,?_,?_⟩ <;> simp [World.cell?,h,Os.BO]
theorem links_ge {L:List Ino} (hr:It.right L = true) {k:Nat} {x:Ino} (hx:L[k]? = some x):0<=x.links:=by
 have h:=Sp.attr_of hr (List.mem_of_getElem? hx);have h':=At.right_iff.1 h;unfold At.rightP at h';omega
def Nf.OnF (T:List Ino) (o:Os.Opn):Prop:=∃ (i:Nat) (x:Ino),T[i]? = some x/\o.2.2.1 = (i:Int)/\x.gen = o.2.2.2/\x.kind = 1
theorem Nf.ask_right {L:List Ino} {O:List Os.Opn} {dn:Int} (h:Nf.askB (Sp.isSp L) (Os.Op.right 0 O) (allBytes L) (Sp.top L) dn = true):Nf.right L O dn = Nf.filesOk L O:=by
 simp only [Nf.askB,Bool.and_eq_true,decide_eq_true_eq] at h;obtain ⟨h1,h2,h3,h4,h5,h6⟩:=h;have h7:Nf.doneOk L dn = true:=Nf.doneOk_iff.2 ⟨⟨h4,h5⟩,fun x hx=>Int.le_trans (Sp.top_ge hx) h6⟩;unfold Nf.right;rw [h1,h2,h7];simp [h3]
theorem Nf.no_right {L:List Ino} {O:List Os.Opn} {dn:Int} (h:Nf.askB (Sp.isSp L) (Os.Op.right 0 O) (allBytes L) (Sp.top L) dn = false):Nf.right L O dn = false:=by
 cases hr:Nf.right L O dn with
 | false=>rfl
 | true =>
  unfold Nf.right at hr;simp only [Bool.and_eq_true,decide_eq_true_eq] at hr;obtain ⟨h1,h2,-,h3,h4⟩:=hr;obtain ⟨⟨h5,h6⟩,h7⟩:=Nf.doneOk_iff.1 h4;have h8:Sp.top L<=dn:=Sp.top_le h5 h7;simp [Nf.askB,h1,h2,h3,h5,h6,h8] at h
theorem Nf.right_ask {L:List Ino} {O:List Os.Opn} {dn:Int}:Nf.right L O dn = (Nf.askB (Sp.isSp L) (Os.Op.right 0 O) (allBytes L) (Sp.top L) dn && Nf.filesOk L O):=by
 cases h:Nf.askB (Sp.isSp L) (Os.Op.right 0 O) (allBytes L) (Sp.top L) dn with
 | false=>exact Nf.no_right h
 | true=>exact Nf.ask_right h
theorem nrright_any {S : Nat → Prop} (vi vo : Value) (sp : Option Addr) (sn sc : Nat) (dn : Int) (L : List Rw) (O : List Os.Opn) (w : World) (hv : TabAt S w vi L) (hok : Sp.okN L) (ho : AtW Os.EO w vo O) :
  Calls Tryz.prog 14 #[VSt vi vo (.slice sp sn sc) dn] w fun e w'=>e = .returned (.bool (Nf.right (pl L) O dn))/\Bw w w':=by
 rw [Nf.right_ask];have HV:Hid (TabAt S w vi L):=hv;have HO:Hid (AtW Os.EO w vo O):=ho;have HOK:Hid (Sp.okN L):=hok;obtain ⟨W,hW⟩:=qF (w.alloc (BSt vi vo (.slice sp sn sc) dn));have HB0:Hid _:=qB hW;have HA0:Hid _:=qC hW;obtain ⟨p,c,rfl,-,-⟩:=hv.open;obtain ⟨q,d,rfl,-,-⟩:=ho.open;obtain ⟨n,hn'⟩:=qE L.length;obtain ⟨m,hm'⟩:=qE O.length;rw [hn'] at HV HA0 hW ⊢;rw [hm'] at HO HA0 hW ⊢;obtain ⟨r1,hr1⟩:=qE (Sp.isSp (pl L));obtain ⟨r2,hr2⟩:=qE (Os.Op.right 0 O);obtain ⟨y,hy⟩:=qE (allBytes (pl L));obtain ⟨t,ht⟩:=qE (Sp.top (pl L));rw [hr1,hr2,hy,ht];obtain ⟨b,hno⟩:=qE (Nf.askB r1 r2 y t dn);rw [hno];have HC1:Hid (∀ V,W.grownBy V none->Calls Tryz.prog 32 #[.slice p n c] V fun e w'=>e = .returned (.bool r1)/\Bw V w'):=fun V hV=>by rw [← hr1];exact rspace_any S _ L V ((HV.out.up HB0.out).up (below_none hV (Nat.le_refl _))) HOK.out
 have HC2:Hid (∀ V,W.grownBy V none->Calls Tryz.prog 33 #[.slice q m d] V fun e w'=>e = .returned (.bool r2)/\Bw V w'):=fun V hV=>by rw [← hr2];exact Os.rright_any _ O V ((HO.out.up HB0.out).up (below_none hV (Nat.le_refl _)))
 have HC3:Hid (∀ V,W.grownBy V none->Calls Tryz.prog 34 #[.slice p n c] V fun e w'=>e = .returned (.int .i64 y)/\Bw V w'):=fun V hV=>by rw [← hy];exact rbytes_any _ L V ((HV.out.up HB0.out).up (below_none hV (Nat.le_refl _)))
 have HC4:Hid (∀ V,W.grownBy V none->Calls Tryz.prog 35 #[.slice p n c] V fun e w'=>e = .returned (.int .i64 t)/\Bw V w'):=fun V hV=>by rw [← ht];exact rstamp_any _ L V ((HV.out.up HB0.out).up (below_none hV (Nat.le_refl _)))
 obtain ⟨a0,a1,a2,a3⟩:=st_of HA0.out;have d0:=fun p:Grw W=>cell_step a0 p.below
 have d1:=fun p:Grw W=>cell_step a1 p.below
 have d2:=fun p:Grw W=>cell_step a2 p.below
 have d3:=fun p:Grw W=>cell_step a3 p.below
 have hne9:Nonempty (Grw W):=grw_some W;have HN:Hid _:=hn';have HM:Hid _:=hm';obtain ⟨f,hf⟩:=qE (Nf.filesOk (pl L) O);have HF:Hid _:=hf;rw [hf];have HI:Hid _:=hr1;clear hf hv ho hok hn' hm' hr1 hr2 hy ht a0 a1 a2 a3;go_enter Tryz.func14,Tryz.ntmps14;go_wp2_with fail;rw [← hW];clear hW
 cases b with
 | false =>
  have hor:r1 = false∨(r1 = true/\r2 = false)∨(r1 = true/\r2 = true/\8192 < y)∨(r1 = true/\r2 = true/\¬ 8192 < y/\dn < 0)∨(r1 = true/\r2 = true/\¬ 8192 < y/\¬ dn < 0/\1099511627776 < dn)∨(r1 = true/\r2 = true/\¬ 8192 < y/\¬ dn < 0/\¬ 1099511627776 < dn/\dn < t):=by
   cases r1 with
   | false=>exact .inl rfl
   | true =>
    cases r2 with
    | false=>exact .inr (.inl ⟨rfl,rfl⟩)
    | true =>
     have hn:¬ (y<=8192/\0<=dn/\dn<=1099511627776/\t<=dn):=fun h=>by simp [Nf.askB,h.1,h.2.1,h.2.2.1,h.2.2.2] at hno
     simp only [true_and,Bool.true_eq_false,false_or];omega
  clear hno;rcases hor with rfl | ⟨rfl,rfl⟩ | ⟨rfl,rfl,h3⟩ | ⟨rfl,rfl,h3,h4⟩ | ⟨rfl,rfl,h3,h4,h5⟩ | ⟨rfl,rfl,h3,h4,h5,h6⟩
  all_goals
   refine wp_region_grw (by kernel_rfl) (by kernel_rfl) ?_
   repeat (go_big_quiet_step (first
    | (go_at_call 32;refine calls_grw (Grw.grown _) (HC1.out _ (Grw.grown _)))
    | (go_at_call 33;refine calls_grw (Grw.grown _) (HC2.out _ (Grw.grown _)))
    | (go_at_call 34;refine calls_grw (Grw.grown _) (HC3.out _ (Grw.grown _)))
    | (go_at_call 35;refine calls_grw (Grw.grown _) (HC4.out _ (Grw.grown _)))))
   refine wpQuiet_nil ?_;rintro w9 ⟨p9,rfl⟩;have HB9:=qJ HB0 p9.below;clear hne9 d0 d1 d2 d3;go_wp2;go_ret;exact ⟨rfl,HB9.out⟩
 | true =>
  have hla:=(qL HA0.out);have HF0:(Nf.filesOk (pl L) O = true->False)->Hid (f = false):=fun h=>by rw [← HF.out];exact Bool.eq_false_iff.2 h
  simp only [Nf.askB,Bool.and_eq_true,decide_eq_true_eq] at hno;obtain ⟨rfl,rfl,g3,g4,g5,g6⟩:=hno;have h3':¬ (8192 < y):=by omega
  have h4':¬ (dn < 0):=by omega
  have h5':¬ (1099511627776 < dn):=by omega
  have h6:¬ (dn < t):=by omega
  clear g3 g4 g5 g6;refine wp_region_grw (by kernel_rfl) (by kernel_rfl) ?_
  repeat (go_big_quiet_step (first
   | (go_at_call 32;refine calls_grw (Grw.grown _) (HC1.out _ (Grw.grown _)))
   | (go_at_call 33;refine calls_grw (Grw.grown _) (HC2.out _ (Grw.grown _)))
   | (go_at_call 34;refine calls_grw (Grw.grown _) (HC3.out _ (Grw.grown _)))
   | (go_at_call 35;refine calls_grw (Grw.grown _) (HC4.out _ (Grw.grown _)))))
  refine wpQuiet_nil ?_;rintro w9 ⟨p9,rfl⟩;obtain ⟨W2,hW2⟩:=qF p9.out;have b9:=p9.below;rw [← hW2] at b9 ⊢;have HB2:=qJ HB0 b9;have HA2:Hid _:=(b9.block _ hla).trans HA0.out;have hlw2:w.heap.size < W2.heap.size:=(qL HA2.out);obtain ⟨a0,a1,a2,a3⟩:=st_of HA2.out;clear hne9 d0 d1 d2 d3 h3' h4' h5' h6 HC1 HC2 HC3 HC4 b9 hW2 p9 HOK;go_wp2;go_loopw [44] (fun i wr=>∃ k:Nat,k<=m/\i = .int .i64 k/\Hid (∀ j o,j < k->O[j]? = some o->Nf.OnF (pl L) o)/\Hid (Bw W2 wr)) (fun i _=>m - (intOf i).toNat)
  case atStart=>exact ⟨0,Nat.zero_le _,rfl,fun j o hj=>absurd hj (Nat.not_lt_zero _),Below.refl _ _⟩
  case round =>
   obtain ⟨k,hk,rfl,HP,HB⟩:=hrel;have hsz:=HB.out.size;have HBW:=qJ HB2 HB.out;have HA3:Hid _:=(HB.out.block _ hlw2).trans HA2.out;clear a0 a1 a2 a3
   by_cases hlt:k < m
   ·obtain ⟨o,hok⟩:∃ o,O[k]? = some o:=⟨_,List.getElem?_eq_getElem (by rw [HM.out];exact hlt)⟩;obtain ⟨qo,cq,hq,hmx,hxo⟩:=HO.out.open;simp only [Value.slice.injEq] at hq;obtain ⟨rfl,-,rfl⟩:=hq;have hmm:m<=9223372036854775807:=by
     have:=HM.out;unfold maxLen at hmx;omega
    obtain ⟨b,off,rfl,-,hbl,hc⟩:=hxo k o hok;have HOk:Hid _:=hok;obtain ⟨x0,x1,x2,x3⟩:=o;have aa:=fun j u hj=>(HBW.out.cell (p:=⟨b,off + (k * Os.EO.sz + j),none⟩) hbl).trans (hc j u hj)
    have c0:wr.cell? ⟨b,off + k * 4,none⟩ = some (.int .i64 x0):=aa 0 _ rfl;have c1:wr.cell? ⟨b,off + k * 4 + 1,none⟩ = some (.int .i64 x1):=aa 1 _ rfl;have c2:wr.cell? ⟨b,off + k * 4 + 2,none⟩ = some (.int .i64 x2):=aa 2 _ rfl;have c3:wr.cell? ⟨b,off + k * 4 + 3,none⟩ = some (.int .i64 x3):=aa 3 _ rfl;obtain ⟨W3,hW3⟩:=qF (wr.alloc (Os.BO (x0,x1,x2,x3)));have b3:Bw wr W3:=by rw [hW3];exact qG _ _
    have hlwr:w.heap.size < wr.heap.size:=(qL HA3.out);have HA4:Hid _:=(b3.block _ hlwr).trans HA3.out;have HO4:Hid _:=qC hW3;have HB4:Hid _:=HB.out.trans (b3.mono hsz);have HBw4:=qJ HBW b3;have hlA:=(qL HA4.out);have hlO:=(qL HO4.out);obtain ⟨a0,a1,a2,a3⟩:=st_of HA3.out;have hlt':(k:Int) < (m:Int):=by omega
    have hs4:=HB4.out.size;clear aa hc hok hxo hmx b3 HB HBW;go_wp2_with fail;rw [← hW3];clear hW3 c0 c1 c2 c3;refine (rnames_any _ L x2 x3 _ (HV.out.up HBw4.out)).mono ?_;rintro e w5 ⟨rfl,hb5⟩;have HA5:Hid _:=(hb5.block _ hlA).trans HA4.out;have HO5:Hid _:=(hb5.block _ hlO).trans HO4.out;have HB5:Hid _:=HB4.out.trans (hb5.mono hs4);have HBw5:=qJ HBw4 hb5;clear a0 a1 a2 a3 hb5;obtain ⟨a0,a1,a2,a3⟩:=st_of HA5.out;obtain ⟨e0,e1,e2,e3⟩:=bo_of HO5.out
    cases hnm:names (pl L) x2 x3 with
    | false =>
     obtain rfl:f = false:=HF0 fun hr=>by
      obtain ⟨i,x,hx,h1,h2,h3⟩:=(Nf.filesOk_iff.1 hr).1 _ (List.mem_of_getElem? HOk.out);have:names (pl L) x2 x3 = true:=It.names_iff.2 ⟨i,x,hx,h1,h2,by omega⟩;rw [hnm] at this
      cases this
     clear hnm;go_wp2;go_ret;exact ⟨rfl,HBw5.out⟩
    | true =>
     obtain ⟨i,xi,hxi,h1,h2,h3⟩:=It.names_iff.1 hnm;subst h1;obtain ⟨x,hx,hxe⟩:∃ x,L[i]? = some x/\x.i = xi:=by
      unfold pl at hxi;rw [List.getElem?_map] at hxi
      cases hL:L[i]? with
      | none=>rw [hL] at hxi;simp at hxi
      | some x=>rw [hL] at hxi;exact ⟨x,rfl,by simpa using hxi⟩
     obtain ⟨pa,ca,hp,hmi,hxx⟩:=HV.out.open;simp only [Value.slice.injEq] at hp;obtain ⟨rfl,-,rfl⟩:=hp;obtain ⟨⟨bi,offi,rfl,hbi,hci⟩,-⟩:=hxx i x hx;have hin:i < n:=by rw [← HN.out];exact (qM hx)
     have hin':(i:Int) < (n:Int):=by omega
     obtain ⟨z0,z1,z2,z3,z4,z5,z6,z7⟩:=hci.below HBw5.out hbi;have HX:Hid _:=It.pl_get hx;subst hxe;have HG:Hid _:=h2;obtain ⟨⟨g,kk,l,s,tt,rs,es,nx⟩,rp,rn,rc,ep,en,ec⟩:=x;simp only at z0 z1 z2 z3 z4 z5 z6 z7;clear hnm hxi h2 h3 hmi hxx hx hbi hci
     by_cases e:kk = 1
     ·have e':(kk != 1) = false:=by simp [e]
      have HP2:Hid (∀ j o,j < k + 1->O[j]? = some o->Nf.OnF (pl L) o):=fun j o hj ho=>by
       rcases Nat.lt_or_ge j k with h | h
       ·exact HP.out j o h ho
       ·obtain rfl:j = k:=by omega
        rw [HOk.out] at ho
        cases ho
        exact ⟨i,_,HX.out,rfl,HG.out,e⟩
      clear e;go_wp2
      go_roundw
      case rel=>exact ⟨k + 1,by omega,by go_num,HP2,HB5⟩
      case measure=>simp [intOf];omega
     ·have e':(kk != 1) = true:=by simp [e]
      obtain rfl:f = false:=HF0 fun hr=>by
       obtain ⟨i',y',hy,h1,h2,h3⟩:=(Nf.filesOk_iff.1 hr).1 _ (List.mem_of_getElem? HOk.out);obtain rfl:i' = i:=by simp only at h1;omega
       rw [HX.out] at hy
       cases hy
       exact absurd h3 e
      clear e;go_wp2;go_ret;exact ⟨rfl,HBw5.out⟩
   ·obtain rfl:k = m:=by omega
    have HFl:Hid (Nf.Fl (pl L) O):=fun o ho=>by
     obtain ⟨j,hj,rfl⟩:=List.getElem_of_mem ho;exact HP.out j _ (by rw [← HM.out];exact hj) (List.getElem?_eq_getElem hj)
    obtain ⟨a0,a1,a2,a3⟩:=st_of HA3.out;clear HP HB hsz;obtain ⟨wv,rfl⟩:=qF wr;go_wp2;have hlr:=(qL HA3.out);clear a0 a1 a2 a3;go_loopw [70] (fun i wr=>∃ k:Nat,k<=n/\i = .int .i64 k/\Hid (∀ j x,j < k->(pl L)[j]? = some x->x.kind = 1->x.links<=0->Nf.Hl O j x.gen)/\Hid (Bw wv wr)) (fun i _=>n - (intOf i).toNat)
    case atStart=>exact ⟨0,Nat.zero_le _,rfl,fun j o hj=>absurd hj (Nat.not_lt_zero _),Below.refl _ _⟩
    case round =>
     obtain ⟨k2,hk2,rfl,HP,HB⟩:=hrel;have hsz:=HB.out.size;have HBQ:=qJ HBW HB.out;have HA5:Hid _:=(HB.out.block _ hlr).trans HA3.out;obtain ⟨pa,ca,hp,hmi,hxx⟩:=HV.out.open;have hnn:n<=9223372036854775807:=by
      have:=HN.out;unfold maxLen at hmi;omega
     by_cases hlt:k2 < n
     ·obtain ⟨x,hx⟩:∃ x,L[k2]? = some x:=⟨_,List.getElem?_eq_getElem (by rw [HN.out];exact hlt)⟩;simp only [Value.slice.injEq] at hp;obtain ⟨rfl,-,rfl⟩:=hp;obtain ⟨⟨bi,offi,rfl,hbi,hci⟩,-⟩:=hxx k2 x hx;obtain ⟨z0,z1,z2,z3,z4,z5,z6,z7⟩:=hci.below HBQ.out hbi;have HX:Hid _:=It.pl_get hx;obtain ⟨X,hX⟩:=qF x.i;rw [← hX] at HX;have HLK:Hid _:=links_ge (Sp.isSp_iff.1 HI.out).1 HX.out;obtain ⟨⟨g,kk,l,s,tt,rs,es,nx⟩,rp,rn,rc,ep,en,ec⟩:=x;simp only at z0 z1 z2 z3 z4 z5 z6 z7 hX;subst hX;obtain ⟨W3,hW3⟩:=qF (wr.alloc (B8 g kk l s tt (.slice rp rn rc) (.slice ep en ec) nx));have b3:Bw wr W3:=by rw [hW3];exact qG _ _
      have HBr:Hid _:=HB.out.trans (b3.mono hsz);have HB3:=qJ HBQ b3;have hsr:=HBr.out.size;obtain ⟨a0,a1,a2,a3⟩:=st_of HA5.out;have hlt':(k2:Int) < (n:Int):=by omega
      have hlq:w.heap.size < wr.heap.size:=(qL HA5.out);have HNX:(kk = 1->l<=0->Nf.Hl O k2 g)->Hid (∀ j x,j < k2 + 1->(pl L)[j]? = some x->x.kind = 1->x.links<=0->Nf.Hl O j x.gen):=fun hne j x hj hjx=>by
       rcases Nat.lt_or_ge j k2 with h | h
       ·exact HP.out j x h hjx
       ·obtain rfl:j = k2:=by omega
        rw [HX.out] at hjx
        cases hjx
        exact hne
      clear hmi hxx hx hbi hci b3 HB
      by_cases e1:kk = 1
      ·subst e1;have t1:((1:Int) == 1) = true:=rfl
       by_cases e2:l = 0
       ·subst e2;have t2:((0:Int) == 0) = true:=rfl;go_wp2_with fail
        first | rw [← hW3] | skip
        clear hW3 a0 a1 a2 a3 z0 z1 z2 z3 z4 z5 z6 z7;refine (rheld_any _ O k2 g _ (HO.out.up HB3.out)).mono ?_;rintro e w5 ⟨rfl,hb5⟩;have HB5:=qJ HB3 hb5;have HBr5:Hid _:=HBr.out.trans (hb5.mono hsr);clear hb5
        cases hh:decide (0 < Os.Op.held O k2 g) with
        | false =>
         obtain rfl:f = false:=HF0 fun hr=>by
          have h:=Nf.held_pos.2 ((Nf.filesOk_iff.1 hr).2 k2 _ HX.out rfl (Int.le_refl 0) id);rw [decide_eq_false_iff_not] at hh;exact absurd h hh
         clear hh HNX;go_wp2;go_ret;exact ⟨rfl,HB5.out⟩
        | true =>
         have HP2:=HNX fun _ _=>Nf.held_pos.1 (of_decide_eq_true hh)
         clear hh HNX;go_wp2
         go_roundw
         case rel=>exact ⟨k2 + 1,by omega,by go_num,HP2,HBr5⟩
         case measure=>simp [intOf];omega
       ·have t2:(l == 0) = false:=by simp [e2]
        have HP2:=HNX fun _ h=>absurd (Int.le_antisymm h HLK.out) e2
        clear e2 HNX;go_wp2
        go_roundw
        case rel=>exact ⟨k2 + 1,by omega,by go_num,HP2,by rw [← hW3];exact HBr.out⟩
        case measure=>simp [intOf];omega
      ·have t1:(kk == 1) = false:=by simp [e1]
       have HP2:=HNX fun h=>absurd h e1
       clear e1 HNX;go_wp2
       go_roundw
       case rel=>exact ⟨k2 + 1,by omega,by go_num,HP2,by rw [← hW3];exact HBr.out⟩
       case measure=>simp [intOf];omega
     ·obtain rfl:k2 = n:=by omega
      have hf1:f = true:=by
       rw [← HF.out];refine Nf.filesOk_iff.2 ⟨HFl.out,fun i x hx h1 h2 _=>HP.out i x ?_ hx h1 h2⟩;have:=(qM hx);simp only [pl,List.length_map] at this;rw [HN.out] at this;exact this
      subst hf1;go_wp2;go_ret;exact ⟨rfl,HBQ.out⟩
section
variable {u uo u' uo':Value} {sp sp':Option Addr} {sn sc:Nat} {D:Int} {T:List Ino} {O:List Os.Opn} {w:World}
theorem sv_check (h:Sv w u uo T O) (hx:Nf.RX T O D (fun _=>False)):Calls Tryz.prog 13 #[VSt u uo (.slice sp sn sc) D] w fun e w'=>e = .returned (.int .i64 0)/\Bw w w':=by
 obtain ⟨L,h1,h2,h3⟩:=h;subst h2;refine (ncheck_any u uo sp sn sc D L O w h1 (Sp.okN_sp hx.sp) h3).mono ?_;rintro e w' ⟨rfl,hb⟩;refine ⟨?_,hb⟩;unfold Nf.chk;rw [if_pos (Nf.right_rx.2 hx)]
theorem sv_right (h:Sv w u uo T O) (hx:Nf.RX T O D (fun _=>False)):Calls Tryz.prog 14 #[VSt u uo (.slice sp sn sc) D] w fun e w'=>e = .returned (.bool true)/\Bw w w':=by
 obtain ⟨L,h1,h2,h3⟩:=h;subst h2;refine (nrright_any u uo sp sn sc D L O w h1 (Sp.okN_sp hx.sp) h3).mono ?_;rintro e w' ⟨rfl,hb⟩;exact ⟨by rw [Nf.right_rx.2 hx],hb⟩
theorem sv_same (h:Sv w u uo T O) (h':Sv w u' uo' T O):Calls Tryz.prog 15 #[VSt u uo (.slice none 0 0) D,VSt u' uo' (.slice none 0 0) D] w fun e w'=>e = .returned (.bool true)/\Bw w w':=by
 obtain ⟨L,h1,h2,h3⟩:=h;obtain ⟨M,k1,k2,k3⟩:=h';exact state_same (S3:=fun _=>True) (T3:=fun _=>True) _ _ _ _ _ _ _ L M O [] w h1 k1 (h2.trans k2.symm) h3 k3 At.nil At.nil
end
theorem one_st (w:World) (x:Obj):Bw w (w.alloc x):=qG _ _
theorem box_set {w:World} {A:Nat} {a d g a' d':Option Addr} {b c e f i j b' c' e' f':Nat} {dn D:Int} {T:List Ino} {O:List Os.Opn} (hA:w.heap[A]? = some (BSt (.slice a b c) (.slice d e f) (.slice g i j) dn)) (hs:Sv w (.slice a' b' c') (.slice d' e' f') T O) :
  (w.setCells A 0 (cS (.slice a' b' c') (.slice d' e' f') (.slice g i j) D)).heap[A]? = some (BSt (.slice a' b' c') (.slice d' e' f') (.slice g i j) D)/\Sv (w.setCells A 0 (cS (.slice a' b' c') (.slice d' e' f') (.slice g i j) D)) (.slice a' b' c') (.slice d' e' f') T O/\∀ {n:Nat} {w0:World},n<=A->Below n w0 w->Below n w0 (w.setCells A 0 (cS (.slice a' b' c') (.slice d' e' f') (.slice g i j) D)) :=
 ⟨setCells_at (cS (.slice a' b' c') (.slice d' e' f') (.slice g i j) D) hA rfl,hs.set hA _,fun hn hb=>setCells_below hn _ 0 _ hb⟩
structure Sy (w v:World) (A C R:Nat) (u uo u' uo':Value) (D DD:Int) (RR:Nf.Rpl) (ve:Value) (T TT:List Ino) (O QQ:List Os.Opn):Prop where
 ja:v.heap[A]? = some (BSt u uo (.slice none 0 0) D)
 jc:v.heap[C]? = some (BSt u' uo' (.slice none 0 0) DD)
 jr:v.heap[R]? = some (BRl RR ve)
 so:Sv v u uo T O
 sn:Sv v u' uo' TT QQ
 ee:AtW EE v ve RR.ents
 bl:Bw w v
theorem Sy.up {w v v':World} {A C R:Nat} {u uo u' uo':Value} {D DD:Int} {RR:Nf.Rpl} {ve:Value} {T TT:List Ino} {O QQ:List Os.Opn} (h:Sy w v A C R u uo u' uo' D DD RR ve T TT O QQ) (hb:Bw v v'):Sy w v' A C R u uo u' uo' D DD RR ve T TT O QQ :=
 ⟨kp hb h.ja,kp hb h.jc,kp hb h.jr,h.so.up hb,h.sn.up hb,h.ee.up hb,h.bl.trans (hb.mono h.bl.size)⟩
theorem stays_any (vl:Value) (l:List Doc) (w:World) (hv:AtW EDo w vl l) (hf:∀ x∈l,fits x.2) :
  Calls Tryz.prog 5 #[vl] w fun e w'=>e = .returned (.bool true)/\Bw w w':=by
 obtain ⟨ao,cap,rfl,hm,hx⟩:=hv.open;clear hv;unfold maxLen at hm;obtain ⟨N,hN⟩:=qE l.length;rw [hN] at hm ⊢;have HN:Hid _:=hN;have HX:Hid _:=hx;have HF:Hid _:=hf;clear hN hx hf
 by_cases hg:N<=120
 ·have g1:¬ (120:Int) < (N:Int):=by omega
  clear hg;go_enter Tryz.func5,Tryz.ntmps5;go_wp2_with fail;refine (sv_new _).mono ?_;rintro e w1 ⟨ap,n1,cp,rfl,hs,hb⟩;obtain ⟨V,hV⟩:=qF (w1.alloc (BSt (.slice ap n1 cp) (.slice none 0 0) (.slice none 0 0) 0));obtain ⟨A,hA⟩:=qE w1.heap.size;have HAR:Hid _:=hA;have hbv:Bw w1 V:=by rw [hV];exact one_st _ _
  have HS:Hid _:=hs.up hbv;have HB:Hid _:=hb.trans (hbv.mono hb.size);have JA:Hid (V.heap[A]? = some (BSt (.slice ap n1 cp) (.slice none 0 0) (.slice none 0 0) 0)):=by show _ = _;rw [hV,← hA];exact heap_alloc_new _ _
  have hwA:w.heap.size<=A:=by rw [← hA];exact hb.size
  clear hs hb hbv hA;go_wp2_with fail;rw [← hV,HAR.out];clear hV HAR;go_loopw [16] (fun i wr=>∃ (k:Nat) (p q:Option Addr) (m z m2 z2:Nat) (D:Int) (T:List Ino) (O:List Os.Opn),k<=N/\i = .int .i64 k/\Hid (wr.heap[A]? = some (BSt (.slice p m z) (.slice q m2 z2) (.slice none 0 0) D))/\Hid (Sv wr (.slice p m z) (.slice q m2 z2) T O)/\Hid (Nf.RX T O D (fun _=>False))/\Hid (Bw w wr)) (fun i _=>N - (intOf i).toNat)
  case atStart=>exact ⟨0,_,_,_,_,_,_,0,It.new,[],Nat.zero_le _,rfl,JA,HS,Nf.rx_new,HB⟩
  case round =>
   obtain ⟨k,p,q,m,z,m2,z2,D,T,O,hk,rfl,JA,HS,HI,HB⟩:=hrel;have hsz:=HB.out.size
   by_cases hlt:k < N
   ·obtain ⟨x,hxk⟩:∃ x,l[k]? = some x:=⟨_,List.getElem?_eq_getElem (by rw [HN.out];exact hlt)⟩;obtain ⟨b,off,rfl,-,hbl,hc⟩:=HX.out k x hxk;have HSX:Hid _:=HF.out x (List.mem_of_getElem? hxk);obtain ⟨cl,ck,cno,cgen,cno2,cgen2,cnm,cnm2,cpl,cn,cda⟩:=x;have aa:=fun j u hj=>(HB.out.cell (p:=⟨b,off + (k * EDo.sz + j),none⟩) hbl).trans (hc j u hj)
    have c0:wr.cell? ⟨b,off + k * 11,none⟩ = some (.int .i64 cl):=aa 0 _ rfl;have c1:wr.cell? ⟨b,off + k * 11 + 1,none⟩ = some (.int .i64 ck):=aa 1 _ rfl;have c2:wr.cell? ⟨b,off + k * 11 + 2,none⟩ = some (.int .i64 cno):=aa 2 _ rfl;have c3:wr.cell? ⟨b,off + k * 11 + 3,none⟩ = some (.int .i64 cgen):=aa 3 _ rfl;have c4:wr.cell? ⟨b,off + k * 11 + 4,none⟩ = some (.int .i64 cno2):=aa 4 _ rfl;have c5:wr.cell? ⟨b,off + k * 11 + 5,none⟩ = some (.int .i64 cgen2):=aa 5 _ rfl;have c6:wr.cell? ⟨b,off + k * 11 + 6,none⟩ = some (.string cnm):=aa 6 _ rfl;have c7:wr.cell? ⟨b,off + k * 11 + 7,none⟩ = some (.string cnm2):=aa 7 _ rfl;have c8:wr.cell? ⟨b,off + k * 11 + 8,none⟩ = some (.int .i64 cpl):=aa 8 _ rfl;have c9:wr.cell? ⟨b,off + k * 11 + 9,none⟩ = some (.int .i64 cn):=aa 9 _ rfl;have c10:wr.cell? ⟨b,off + k * 11 + 10,none⟩ = some (.string cda):=aa 10 _ rfl;clear aa hc hxk;have hlt':(k:Int) < (N:Int):=by omega
    obtain ⟨t0,t1,t2,t3⟩:=st_of JA.out;have hl7:A < wr.heap.size:=(qL JA.out);obtain ⟨RR,hRR⟩:=qE (Nf.doR T O D cl ⟨ck,cno,cgen,cno2,cgen2,cnm,cnm2,cpl,cn,cda⟩);obtain ⟨TT,hTT⟩:=qE (Nf.doT T O D cl ⟨ck,cno,cgen,cno2,cgen2,cnm,cnm2,cpl,cn,cda⟩);obtain ⟨QQ,hQQ⟩:=qE (Nf.doO T O D cl ⟨ck,cno,cgen,cno2,cgen2,cnm,cnm2,cpl,cn,cda⟩);obtain ⟨DD,hDD⟩:=qE (Nf.doD T O D cl);have hall:=Nf.do_all (cl:=cl) (c:=⟨ck,cno,cgen,cno2,cgen2,cnm,cnm2,cpl,cn,cda⟩) HI.out;rw [hTT,hQQ,hDD,hRR] at hall;have HC:Hid (∀ W':World,Sv W' (.slice p m z) (.slice q m2 z2) T O->Calls Tryz.prog 11 #[VSt (.slice p m z) (.slice q m2 z2) (.slice none 0 0) D,.int .i64 cl,Ks.VC ⟨ck,cno,cgen,cno2,cgen2,cnm,cnm2,cpl,cn,cda⟩] W' fun e w'=>∃ ep en ec up un uc op on oc,e = .returned (.tuple #[VSt (.slice up un uc) (.slice op on oc) (.slice none 0 0) DD,VR RR (.slice ep en ec)])/\Sv w' (.slice up un uc) (.slice op on oc) TT QQ/\AtW EE w' (.slice ep en ec) RR.ents/\Bw W' w'):=fun W' h=>sv_do (c:=⟨ck,cno,cgen,cno2,cgen2,cnm,cnm2,cpl,cn,cda⟩) h HI.out HSX.out hRR hTT hQQ hDD
    have HX2:Hid _:=hall.1;have HER:Hid _:=hall.2.2;clear hRR hTT hQQ hDD hall HSX HI;go_wp2_with fail
    with_reducible refine (HC.out _ (HS.out.up (one_st wr _))).mono ?_
    rintro e w4 ⟨ep,en,ec,up,un,uc,op,on,oc,rfl,hs,he,hb⟩;have hb2:Bw wr w4:=(one_st _ _).trans (hb.mono (one_st _ _).size);have hn2:Bw w4 ((w4.alloc (BSt (.slice up un uc) (.slice op on oc) (.slice none 0 0) DD)).alloc (BRl RR (.slice ep en ec))):=two_st _ _ _;obtain ⟨w5,hw5⟩:=qF ((w4.alloc (BSt (.slice up un uc) (.slice op on oc) (.slice none 0 0) DD)).alloc (BRl RR (.slice ep en ec)));obtain ⟨C,hC⟩:=qF w4.heap.size;obtain ⟨R,hR⟩:=qF (w4.heap.size + 1);have hA4:A < w4.heap.size:=Nat.lt_of_lt_of_le hl7 hb2.size;rw [← hw5] at hn2;have hbb:=hb2.trans (hn2.mono hb2.size);have H:Hid (Sy w w5 A C R (.slice p m z) (.slice q m2 z2) (.slice up un uc) (.slice op on oc) D DD RR (.slice ep en ec) T TT O QQ):=⟨(hbb.block _ hl7).trans JA.out,by rw [hw5,hC];exact (Below.heap_alloc _ _ _ (by simp)).trans (heap_alloc_new _ _),by rw [hw5,hR];have h:=heap_alloc_new (w4.alloc (BSt (.slice up un uc) (.slice op on oc) (.slice none 0 0) DD)) (BRl RR (.slice ep en ec));simpa using h,HS.out.up hbb,hs.up hn2,he.up hn2,HB.out.trans (hbb.mono hsz)⟩;have hCA:A≠C/\A≠R:=by omega
    have HW5:Hid (w5 = (w4.alloc (BSt (.slice up un uc) (.slice op on oc) (.slice none 0 0) DD)).alloc (BRl RR (.slice ep en ec))/\C = w4.heap.size/\R = w4.heap.size + 1):=⟨hw5,hC,hR⟩;clear hs he hb hb2 hn2 hw5 hC hR hA4 hbb t0 t1 t2 t3 hl7 c0 c1 c2 c3 c4 c5 c6 c7 c8 c9 c10 hsz HC JA HS HB;go_wp2_with fail;rw [← HW5.out.1,← HW5.out.2.2,← HW5.out.2.1];clear HW5;refine (sv_check H.out.sn HX2.out).mono ?_;rintro e w6 ⟨rfl,hb⟩;replace H:Hid (Sy w w6 _ _ _ _ _ _ _ _ _ _ _ _ _ _ _):=H.out.up hb;clear hb;obtain ⟨s0,s1,s2,s3⟩:=st_of H.out.jc;go_wp2_with fail;refine (sv_right H.out.sn HX2.out).mono ?_;rintro e w7 ⟨rfl,hb⟩;replace H:Hid (Sy w w7 _ _ _ _ _ _ _ _ _ _ _ _ _ _ _):=H.out.up hb;clear hb s0 s1 s2 s3
    by_cases he:RR.e = 0
    ·have he':(RR.e != 0) = false:=by simp [he]
     clear he;obtain ⟨t0,t1,t2,t3⟩:=st_of H.out.ja;have tf:=fr_at H.out.ja;obtain ⟨s0,s1,s2,s3⟩:=st_of H.out.jc;obtain ⟨r0,r1,r2,r3,r4,r5,r6,r7,r8,r9⟩:=rp_of H.out.jr;go_wp2
     go_roundw
     case rel =>
      have hn:=box_set (D:=DD) H.out.ja H.out.sn;exact ⟨k + 1,up,op,un,uc,on,oc,DD,TT,QQ,by omega,by go_num,hn.1,hn.2.1,HX2,hn.2.2 hwA H.out.bl⟩
     case measure=>simp [intOf];omega
    ·obtain ⟨hT,hQ,hbad⟩:=HER.out he;subst hT hQ;obtain ⟨er,rfl⟩:∃ er,RR = Nf.bad er:=⟨_,hbad⟩;have he2:er≠0:=he;have he':(er != 0) = true:=by simp [he2]
     clear he he2 hbad HER;obtain ⟨t0,t1,t2,t3⟩:=st_of H.out.ja;obtain ⟨s0,s1,s2,s3⟩:=st_of H.out.jc;obtain ⟨r0,r1,r2,r3,r4,r5,r6,r7,r8,r9⟩:=rp_of (show w7.heap[R]? = some (BRp er 0 0 0 0 0 0 ⟨#[]⟩ (.slice ep en ec) 0) from H.out.jr);have hl7:A < w7.heap.size:=(qL H.out.ja);have hlc:C < w7.heap.size:=(qL H.out.jc);have hlr:R < w7.heap.size:=(qL H.out.jr);go_wp2_with fail;refine (sv_same (H.out.sn.up (one_st w7 _)) (H.out.so.up (one_st w7 _))).mono ?_;rintro e w8 ⟨rfl,hb⟩;have hb2:Bw w7 w8:=(one_st w7 _).trans (hb.mono (one_st w7 _).size);replace H:Hid (Sy w w8 _ _ _ _ _ _ _ _ _ _ _ _ _ _ _):=H.out.up hb2;clear hb hb2 t0 t1 t2 t3 s0 s1 s2 s3 r0 r1 r2 r3 r4 r5 r6 r7 r8 r9 hl7 hlc hlr;obtain ⟨r0,r1,r2,r3,r4,r5,r6,r7,r8,r9⟩:=rp_of (show w8.heap[R]? = some (BRp er 0 0 0 0 0 0 ⟨#[]⟩ (.slice ep en ec) 0) from H.out.jr);go_wp2_with fail;refine (reply_same (Nf.bad er) (.slice ep en ec) (.slice none 0 0) _ H.out.ee (show AtW EE _ (.slice none 0 0) [] from At.nil)).mono ?_;rintro e w9 ⟨rfl,hb⟩;replace H:Hid (Sy w w9 _ _ _ _ _ _ _ _ _ _ _ _ _ _ _):=H.out.up hb;clear hb r0 r1 r2 r3 r4 r5 r6 r7 r8 r9;obtain ⟨t0,t1,t2,t3⟩:=st_of H.out.ja;have tf:=fr_at H.out.ja;obtain ⟨s0,s1,s2,s3⟩:=st_of H.out.jc;go_wp2
     go_roundw
     case rel =>
      have hn:=box_set (D:=DD) H.out.ja H.out.sn;exact ⟨k + 1,up,op,un,uc,on,oc,DD,TT,QQ,by omega,by go_num,hn.1,hn.2.1,HX2,hn.2.2 hwA H.out.bl⟩
     case measure=>simp [intOf];omega
   ·obtain rfl:k = N:=by omega
    go_wp2_with fail;refine (orphan_any _).mono ?_;rintro e w7 ⟨rfl,hb⟩;have HBZ:Hid _:=HB.out.trans (hb.mono hsz);clear hb;go_wp2;go_ret;exact ⟨rfl,HBZ.out⟩
 ·have g1:(120:Int) < (N:Int):=by omega
  clear hg;go_enter Tryz.func5,Tryz.ntmps5;go_wp2_with fail;refine (orphan_any _).mono ?_;rintro e w1 ⟨rfl,hb⟩;go_wp2;go_ret;exact ⟨rfl,hb⟩
end Go.Proofs.YtneojimodomohaaGreat
