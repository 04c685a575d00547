/- NFil, Bytes, NByt, NChk, NCk2, TPlain, TPlainP, TPlainU, KPlain, TNum, as one. -/
import Derived.Lib.IndexBytes
import Derived.Test.YtneojimodomohaaGreatChecked
import Derived.Laws.BytesArg
import Derived.Test.YtneojimodomohaaGreatV18
set_option maxHeartbeats 8000000
set_option maxRecDepth 100000
namespace Go.Proofs.YtneojimodomohaaGreat
section
open Go.ChangeShapes Go.WideShapes Go.ChangeAt Go.RowKit Go.Deep It
theorem usedR_any {S:Nat->Prop} (v:Value) (L:List Rw) (w:World) (hv:TabAt S w v L) (hL:L.length<=1466015503701) :
  Calls Tryz.prog 130 #[v] w fun e w'=>∃ u,e = .returned u/\Row EH w' w.heap.size 28 u (used (pl L))/\Bw w w':=by
 obtain ⟨i0,hi,hz0,hz1,hz2⟩:=info_parts infoH;obtain ⟨ao,cap,rfl,hm,hx⟩:=hv.open;clear hv;unfold maxLen at hm;obtain ⟨n,hn⟩:=qE L.length;rw [hn] at hm hL ⊢;have HN:Hid (L.length = n):=hn;have HX:Hid (∀ i x,L[i]? = some x->(∃ b off,ao = some ⟨b,off,none⟩/\b < w.heap.size/\eight w b (off + i * 8) x)/\Good S w x):=hx;clear hn hx;go_enter Tryz.func130,Tryz.ntmps130;go_wp2;go_loopw [3,8] (fun u i wr=>∃ k:Nat,k<=n/\i = .int .i64 k/\Row EH wr w.heap.size 28 u (used ((pl L).take k))/\Hid (Bw w wr)) (fun _ i _=>n - (intOf i).toNat)
 case atStart=>exact ⟨0,Nat.zero_le _,rfl,Row.nil _ _ _ _,Below.refl _ _⟩
 case round =>
  obtain ⟨k,hk,rfl,hrow,HB⟩:=hrel
  by_cases hlt:k < n
  ·have h0:L[k]? = some (L[k]'(by have:=HN.out;omega)):=List.getElem?_eq_getElem _;obtain ⟨y,hyk⟩:∃ y,L[k]? = some y:=⟨_,h0⟩;clear h0;obtain ⟨⟨b,off,rfl,hB',hc'⟩,_⟩:=HX.out k y hyk;obtain ⟨d0,d1,d2,d3,d4,d5,d6,d7⟩:=hc'.below HB.out hB';have HU:=It.used_take_succ (It.pl_get hyk);have hul:=It.used_length ((pl L).take k);rw [List.length_take] at hul;obtain ⟨pu,cu,hu⟩:=hrow.slice;generalize used ((pl L).take k) = O at hrow hu HU hul;obtain ⟨q,hq⟩:=qE O.length;have HQ:Hid (O.length = q):=hq;rw [hq] at hu hul;have hqk:q<=k:=by omega
   subst hu;have hlt':(k:Int) < (n:Int):=by omega
   clear hyk hc' hq hul
   by_cases hkd:y.i.kind = 0
   ·rw [if_pos hkd,List.append_nil] at HU;have hkd':(y.i.kind == 0) = true:=by simp [hkd]
    have HU2:Hid (used ((pl L).take (k + 1)) = O):=HU;have HR:Hid (Row EH wr w.heap.size 28 (.slice pu q cu) O):=hrow;clear hkd HU hrow;go_wp2
    go_roundw
    case rel=>exact ⟨k + 1,by omega,by go_num,by rw [HU2.out];exact HR.out.still (World.grownBy_alloc _ _ _),HB.out.alloc HB.out.size _⟩
    case measure=>simp [intOf];omega
   ·rw [if_neg hkd] at HU;have hkd':(y.i.kind == 0) = false:=by simp [hkd]
    have HU2:Hid (used ((pl L).take (k + 1)) = O ++ [((k:Int),y.i.gen)]):=HU;have HR:Hid (Row EH wr w.heap.size 28 (.slice pu q cu) O):=hrow;have hbs:=HB.out.size;obtain ⟨OB,hOB⟩:=qF (Obj.cells #[.int .i64 y.i.gen,.int .i64 y.i.kind,.int .i64 y.i.links,.int .i64 y.i.size,.int .i64 y.i.stamp,.slice y.rp y.rn y.rc,.slice y.ep y.en y.ec,.int .i64 y.i.next] 58);have HI:Hid (AtW EH ((wr.alloc OB).alloc (BH k y.i.gen)) (.slice (some ⟨wr.heap.size + 1,0,none⟩) 1 1) [((k:Int),y.i.gen)]):=by
     refine one_hand _ _ _ _ ?_;have:=heap_alloc_new (wr.alloc OB) (BH k y.i.gen);rw [show (wr.alloc OB).heap.size = wr.heap.size + 1 by simp] at this;exact this
    rw [hOB] at HI;clear hkd HU hrow hOB
    go_wp2_with (at_builtin;refine wpList_row _ rfl _ _ 98 rfl EH (fun _=>True) w.heap.size 28 i0 (.agg #[.int .i64 0,.int .i64 0]) 16 Tryz.underlying98 hi hz0 hz1 hz2 rfl (.slice pu q cu) O rfl ((HR.out.still (World.grownBy_alloc _ _ _)).still (World.grownBy_alloc _ _ _)) _ [((k:Int),y.i.gen)] rfl HI.out (by have:=HQ.out;unfold maxLen;simp;omega) (by have:=HQ.out;simp;omega) (by simp;omega) ?_;intro v7 w7 hrow7 hg7 hmv7)
    have HB7:Hid (Bw w w7):=((HB.out.alloc hbs _).alloc (by simp;omega) _).grown hg7 (by simp;omega) (fun i hi=>(HR.out.lt i hi).1);have HR7:Hid _:=hrow7;clear hrow7 hg7 hmv7;go_wp2
    go_roundw
    case rel=>exact ⟨k + 1,by omega,by go_num,by rw [HU2.out];exact HR7.out,HB7⟩
    case measure=>simp [intOf];omega
  ·obtain rfl:k = n:=by omega
   have HE:Hid (Row EH wr w.heap.size 28 u3 (used (pl L))/\Bw w wr):=by
    have h:=hrow;rw [List.take_of_length_le (by have:=HN.out;simp only [pl,List.length_map];omega)] at h;exact ⟨h,HB.out⟩
   obtain ⟨pu,cu,hu⟩:=hrow.slice;generalize (used ((pl L).take k)).length = q at hu;subst hu;clear hrow;go_wp2;go_ret;exact ⟨_,rfl,HE.out⟩
namespace Nf
def fileAt (L:List Ino) (h:Int × Int):Bool:=match L[h.1.toNat]? with | some x=>x.kind == 1 | none=>false
def files (L:List Ino):List (Int × Int):=(used L).filter (fileAt L)
end Nf
abbrev BSl (v:Value) (t:TypeId):Obj:=.cells #[v] t
theorem sl_of {w:World} {A:Nat} {v:Value} {t:TypeId} (h:w.heap[A]? = some (BSl v t)):w.cell? ⟨A,0,none⟩ = some v:=by simp [World.cell?,h]
theorem files1_any {S:Nat->Prop} (v:Value) (L:List Rw) (no gen:Int) (A:Nat) (w:World) (hv:TabAt S w v L) (hA:w.heap[A]? = some (BSl v 22)) (hn:names (pl L) no gen = true) :
  Calls Tryz.prog 132 #[.agg #[.int .i64 no,.int .i64 gen],.pointer (some ⟨A,0,none⟩)] w fun e w'=>e = .returned (.bool (!Nf.fileAt (pl L) (no,gen)))/\Bw w w':=by
 obtain ⟨k,x,hx,hno,-,-⟩:=names_iff.1 hn;obtain ⟨y,hy,hyi⟩:=Sp.pl_some hx;have hf:Nf.fileAt (pl L) (no,gen) = (y.i.kind == 1):=by
  unfold Nf.fileAt;rw [hno,show ((k:Int),gen).1.toNat = k by show ((k:Int)).toNat = k;omega,hx,hyi]
 rw [hf];obtain ⟨ao,cap,rfl,hm,hxx⟩:=hv.open;obtain ⟨⟨b,off,rfl,hB,c0,c1,c2,c3,c4,c5,c6,c7⟩,-⟩:=hxx k y hy;have hkl:(k:Int) < (L.length:Int):=by have:=(qM hy);omega
 have hA0:=sl_of hA;have hAl:=(qL hA);subst hno;obtain ⟨kd,hkd⟩:=qE y.i.kind;rw [hkd] at c1 ⊢;obtain ⟨n,hn'⟩:=qE L.length;rw [hn'] at hkl hA0;have e0:(!(kd == 1)) = (kd != 1):=rfl;rw [e0];clear hv hxx hn hx hyi hf hm hA c0 c2 c3 c4 c5 c6 c7 hkd e0;go_enter Tryz.func132,Tryz.ntmps132;go_wp2;go_ret;exact ⟨rfl,qG _ _⟩
theorem files_any {S:Nat->Prop} (v:Value) (L:List Rw) (w:World) (hv:TabAt S w v L) (hL:L.length<=24) :
  Calls Tryz.prog 75 #[v] w fun e w'=>∃ u,e = .returned u/\AtW EH w' u (Nf.files (pl L))/\Bw w w':=by
 have HV:Hid (TabAt S w v L):=hv;have HL:Hid (L.length<=24):=hL;obtain ⟨W,hW⟩:=qF (w.alloc (BSl v 22));have HB0:Hid _:=qB hW;have HA0:Hid _:=qC hW;have hla:=(qL HA0.out);have hA0:=sl_of HA0.out;obtain ⟨ao,cap,rfl,-,-⟩:=hv.open;obtain ⟨n,hn⟩:=qE L.length;rw [hn] at HV HA0 hA0 hW ⊢;clear hv hL hn;go_enter Tryz.func75,Tryz.ntmps75;go_wp2_with fail;rw [← hW];clear hW hA0;refine (usedR_any _ L _ (HV.out.up HB0.out) (by have:=HL.out;omega)).mono ?_;rintro e w2 ⟨u2,rfl,hu2,hb2⟩;have HU2:Hid (Row EH w2 W.heap.size 28 u2 (used (pl L))):=hu2;have HB2:Hid (Bw W w2):=hb2;obtain ⟨p2,c2,hs2⟩:=hu2.slice;have hul:(used (pl L)).length<=24:=by
  have h1:=It.used_length (pl L);have h2:=HL.out;rw [List.length_map] at h1;omega
 have HUL:Hid ((used (pl L)).length<=1000):=by show _<=_;omega
 obtain ⟨m,hm⟩:=qE ((used (pl L)).length);rw [hm] at hs2;subst hs2;clear hu2 hb2 hm hul;go_wp2_with fail;refine (del_any _ (used (pl L)) (fun h=>!Nf.fileAt (pl L) h) w.heap.size W.heap.size _ HU2.out HB2.out.size HUL.out (fun x hx V hb=>?_)).mono ?_
 ·have hWV:Bw W V:=HB2.out.trans hb;exact files1_any _ L x.1 x.2 w.heap.size V ((HV.out.up HB0.out).up hWV) ((hWV.block _ hla).trans HA0.out) (mem_used.1 hx)
 rintro e w3 ⟨u3,rfl,hu3,hb3⟩;have HB3:Hid (Bw w w3):=HB0.out.trans ((HB2.out.trans hb3).mono HB0.out.size);have HU3:Hid (AtW EH w3 u3 (Nf.files (pl L))):=by
  show AtW EH w3 u3 (Nf.files (pl L));have e:Nf.files (pl L) = (used (pl L)).filter fun x=>!(!Nf.fileAt (pl L) x):=by
   unfold Nf.files;refine List.filter_congr fun x _=>?_
   simp
  rw [e];exact hu3
 obtain ⟨p3,c3,hs3,-,-⟩:=hu3.open;obtain ⟨m3,hm3⟩:=qE (((used (pl L)).filter fun x=>!(!Nf.fileAt (pl L) x)).length);rw [hm3] at hs3;subst hs3;clear hu3 hb3 hm3;go_wp2;go_ret;exact ⟨_,rfl,HU3.out,HB3.out⟩
end
section
open Go.ChangeShapes Go.WideShapes Go.ChangeAt Go.RowKit Go.Deep
theorem bbytes_any (v:Value) (l:List Bl.R) (w:World) (hv:FieldsAt w.heap.size w v l) :
    Calls Tryz.prog 82 #[v] w fun e w'=>e = .returned (.int .i64 (Bl.sumw l))/\Bw w w':=by
  obtain ⟨ao,cap,rfl,hm,hx⟩:=hv.open;clear hv;unfold maxLen at hm;obtain ⟨n,hn⟩:=qE l.length;rw [hn] at hm hx ⊢;have HN:Hid (l.length = n):=hn;have HX:Hid (∀ j,j < n->∃ b off,ao = some ⟨b,off,none⟩/\b < w.heap.size/\w.cell? ⟨b,off + j * 2,none⟩ = some (.int .i64 (l.getD j (0,.empty)).1)/\w.cell? ⟨b,off + j * 2 + 1,none⟩ = some (.string (l.getD j (0,.empty)).2)):=hx;clear hn hx;go_enter Tryz.func82,Tryz.ntmps82;go_wp2;go_loopw [3,8] (fun t i wr=>∃ (k:Nat) (y:Int),k<=n/\i = .int .i64 k/\t = .int .i64 y/\y = Bl.sumw (l.take k)/\Bw w wr) (fun _ i _=>n - (intOf i).toNat)
  case atStart=>exact ⟨0,_,Nat.zero_le _,rfl,rfl,rfl,Below.refl _ _⟩
  case round =>
    obtain ⟨k,y,hk,rfl,rfl,hy,hbl⟩:=hrel;have HY:Hid (y = Bl.sumw (l.take k)):=hy;clear hy;have hsz:=hbl.size
    by_cases hlt:k < n
    · obtain ⟨b, off, rfl, hB, c0, c1⟩ := HX.out k hlt
      have hk':k < l.length:=by rw [HN.out];exact hlt
      rw [← hbl.cell (p:=⟨b,off + k * 2,none⟩) hB] at c0;rw [← hbl.cell (p:=⟨b,off + k * 2 + 1,none⟩) hB] at c1;obtain ⟨x,hxk⟩:=qE (l.getD k (0,.empty));rw [hxk] at c0 c1;have HS:Hid (Bl.sumw (l.take (k + 1)) = wrap64 (Bl.sumw (l.take k) + (x.2.size:Int))):=Bl.sumw_succ hk' hxk;clear hxk;obtain ⟨t,s'⟩:=x;simp only at c0 c1 HS;have hlt':(k:Int) < (n:Int):=by omega
      go_wp2
      go_roundw
      case rel=>exact ⟨k + 1,_,by omega,by go_num,rfl,by rw [HS.out,← HY.out],hbl.alloc hsz _⟩
      case measure=>simp [intOf];omega
    · obtain rfl : k = n := by omega
      go_wp2;go_ret;have h:=HY.out;rw [← HN.out,List.take_length] at h;rw [h];exact ⟨rfl,hbl⟩
end
section
open Go.ChangeShapes Go.WideShapes Go.ChangeAt Go.RowKit Go.Deep It
namespace It
/-- The bytes of all runs, as a sum that goes round. -/
def allBytes (L:List Ino):Int:=L.foldl (fun y x=>wrap64 (y + Bl.sumw x.runs)) 0
theorem bytes_succ {L:List Ino} {k:Nat} {x:Ino} (h:L[k]? = some x):allBytes (L.take (k + 1)) = wrap64 (allBytes (L.take k) + Bl.sumw x.runs):=by
  unfold allBytes;rw [take_succ h,List.foldl_append];rfl
end It
theorem ibytes_any {S : Nat → Prop} (v : Value) (L : List Rw) (w : World) (hv : TabAt S w v L) :
    Calls Tryz.prog 30 #[v] w fun e w'=>e = .returned (.int .i64 (allBytes (pl L)))/\Bw w w':=by
  obtain ⟨ao,cap,rfl,hm,hx⟩:=hv.open;clear hv;unfold maxLen at hm;obtain ⟨n,hn⟩:=qE L.length;rw [hn] at hm ⊢;have HN:Hid (L.length = n):=hn;have HX:Hid (∀ i x,L[i]? = some x->(∃ b off,ao = some ⟨b,off,none⟩/\b < w.heap.size/\eight w b (off + i * 8) x)/\Good S w x):=hx;clear hn hx;go_enter Tryz.func30,Tryz.ntmps30;go_wp2;go_loopw [3,8] (fun t i wr=>∃ (k:Nat) (y:Int),k<=n/\i = .int .i64 k/\t = .int .i64 y/\y = allBytes ((pl L).take k)/\Bw w wr) (fun _ i _=>n - (intOf i).toNat)
  case atStart=>exact ⟨0,0,Nat.zero_le _,rfl,rfl,rfl,Below.refl _ _⟩
  case round =>
    obtain ⟨k,y,hk,rfl,rfl,hy,hbl⟩:=hrel;have HY:Hid (y = allBytes ((pl L).take k)):=hy;have hsz:=hbl.size;clear hy
    by_cases hlt:k < n
    · obtain ⟨x, hxk⟩ : ∃ y, L[k]? = some y := ⟨_, List.getElem?_eq_getElem (by rw [HN.out]; exact hlt)⟩
      obtain ⟨⟨b,off,rfl,hB,hc⟩,hg⟩:=HX.out k x hxk;obtain ⟨d0,d1,d2,d3,d4,d5,d6,d7⟩:=hc.below hbl hB;have HS:Hid (allBytes ((pl L).take (k + 1)) = wrap64 (allBytes ((pl L).take k) + Bl.sumw x.i.runs)):=bytes_succ (It.pl_get hxk);have HGX:Hid (Good S wr x):=hg.up hbl;obtain ⟨X,hX⟩:=qF x;rw [← hX] at HS HGX;have hrr:(Value.slice x.rp x.rn x.rc) = .slice X.rp X.rn X.rc:=by rw [hX]
      obtain ⟨⟨g,kk,l,s,t,rs,es,nx⟩,rp,rn,rc,ep,en,ec⟩:=x;simp only at d0 d1 d2 d3 d4 d5 d6 d7 hrr;have HRF:Hid (FieldsAt (wr.alloc (B8 g kk l s t (.slice rp rn rc) (.slice ep en ec) nx)).heap.size (wr.alloc (B8 g kk l s t (.slice rp rn rc) (.slice ep en ec) nx)) (.slice rp rn rc) X.i.runs):=by
        show FieldsAt _ _ _ _;rw [hrr];exact (HGX.out.1.up (qG _ _)).fields
      have hlt':(k:Int) < (n:Int):=by omega
      clear hxk hc hg hB hX hrr;go_wp2_with fail;refine (bbytes_any _ X.i.runs _ HRF.out).mono ?_;rintro e w2 ⟨rfl,hb2⟩;have HB2:Hid (Bw w w2):=(hbl.alloc hsz _).trans (hb2.mono (by simp;omega));clear hb2;obtain ⟨sm,hsm⟩:=qE (Bl.sumw X.i.runs);rw [hsm] at HS ⊢;clear hsm;go_wp2
      go_roundw
      case rel=>exact ⟨k + 1,_,by omega,by go_num,rfl,by rw [HS.out,← HY.out],HB2.out⟩
      case measure=>simp [intOf];omega
    · obtain rfl : k = n := by omega
      have HE:Hid (y = allBytes (pl L)):=by
        have h:=HY.out;rw [List.take_of_length_le (by simp [pl,HN.out])] at h;exact h
      go_wp2;go_ret;exact ⟨by rw [HE.out];rfl,hbl⟩
abbrev VSt (vi vo vs:Value) (dn:Int):Value:=.agg #[vi,vo,vs,.int .i64 dn]
abbrev BSt (vi vo vs:Value) (dn:Int):Obj:=.cells #[vi,vo,vs,.int .i64 dn] 26
theorem st_of {w:World} {A:Nat} {vi vo vs:Value} {dn:Int} (h:w.heap[A]? = some (BSt vi vo vs dn)) :
  w.cell? ⟨A,0,none⟩ = some vi/\w.cell? ⟨A,1,none⟩ = some vo/\w.cell? ⟨A,2,none⟩ = some vs/\w.cell? ⟨A,3,none⟩ = some (.int .i64 dn):=by
 refine ⟨?_,?_,?_,?_⟩ <;> simp [World.cell?,h]
namespace Nf
def linksAt (L:List Ino) (h:Int × Int):Int:=match L[h.1.toNat]? with | some x=>x.links | none=>0
def needB (L:List Ino) (O:List Os.Opn) (h:Int × Int):Bool:=decide (0 < linksAt L h) || decide (0 < ((Os.Op.held O h.1 h.2:Nat):Int))
def filesOk (L:List Ino) (O:List Os.Opn):Bool:=!(O.any fun x=>!decide ((x.2.2.1,x.2.2.2)∈files L)) && !((files L).any fun h=>!needB L O h)
def doneOk (L:List Ino) (dn:Int):Bool:=decide (0<=dn/\dn<=1099511627776) && !(L.any fun x=>decide (dn < x.stamp))
noncomputable def right (L:List Ino) (O:List Os.Opn) (dn:Int):Bool:=Sp.isSp L && (Os.Op.right 0 O && (filesOk L O && (decide (allBytes L<=8192) && doneOk L dn)))
end Nf
theorem needed_any {S:Nat->Prop} (vi vo:Value) (sp:Option Addr) (sn sc:Nat) (dn:Int) (L:List Rw) (O:List Os.Opn) (no gen:Int) (w:World) (hv:TabAt S w vi L) (ho:AtW Os.EO w vo O) (hn:names (pl L) no gen = true) :
  Calls Tryz.prog 79 #[VSt vi vo (.slice sp sn sc) dn,.agg #[.int .i64 no,.int .i64 gen]] w fun e w'=>e = .returned (.bool (Nf.needB (pl L) O (no,gen)))/\Bw w w':=by
 obtain ⟨k,x,hx,hno,-,-⟩:=names_iff.1 hn;obtain ⟨y,hy,hyi⟩:=Sp.pl_some hx;have hf:Nf.needB (pl L) O (no,gen) = (decide (0 < y.i.links) || decide (0 < ((Os.Op.held O no gen:Nat):Int))):=by
  unfold Nf.needB Nf.linksAt;rw [hno,show ((k:Int),gen).1.toNat = k by show ((k:Int)).toNat = k;omega,hx,hyi]
 rw [hf];obtain ⟨W,hW⟩:=qF ((w.alloc (BSt vi vo (.slice sp sn sc) dn)).alloc (BH no gen));have HB0:Hid (Bw w W):=by show Bw w W;rw [hW];exact (qG _ _).alloc (by simp) _
 have HO:Hid (AtW Os.EO W vo O):=ho.up HB0.out;have HA0:Hid (W.heap[w.heap.size]? = some (BSt vi vo (.slice sp sn sc) dn)/\W.heap[w.heap.size + 1]? = some (BH no gen)):=by
  rw [hW];refine ⟨(Below.heap_alloc _ _ _ (by simp)).trans (heap_alloc_new _ _),?_⟩;have:=heap_alloc_new (w.alloc (BSt vi vo (.slice sp sn sc) dn)) (BH no gen)
  rwa [show (w.alloc (BSt vi vo (.slice sp sn sc) dn)).heap.size = w.heap.size + 1 by simp] at this
 obtain ⟨ao,cap,rfl,hm,hxx⟩:=hv.open;obtain ⟨⟨b,off,rfl,hB,c0,c1,c2,c3,c4,c5,c6,c7⟩,-⟩:=hxx k y hy;obtain ⟨oo,oc,rfl,-,-⟩:=ho.open;have hkl:(k:Int) < (L.length:Int):=by have:=(qM hy);omega
 subst hno;obtain ⟨lk,hlk⟩:=qE y.i.links;rw [hlk] at c2 ⊢;obtain ⟨n,hn'⟩:=qE L.length;obtain ⟨m,hm'⟩:=qE O.length;rw [hn'] at hkl HA0 hW ⊢;rw [hm'] at HA0 hW HO ⊢;obtain ⟨a0,a1,a2,a3⟩:=st_of HA0.out.1;obtain ⟨⟨h0,h1⟩,-⟩:=two_of HA0.out.2;have hl0:=(qL HA0.out.1);have hl1:=(qL HA0.out.2);clear hv hxx hn hx hyi hf hm ho c0 c1 c3 c4 c5 c6 c7 hlk
 by_cases hp:0 < lk
 ·rw [decide_eq_true hp];go_enter Tryz.func79,Tryz.ntmps79;go_wp2;go_ret;refine ⟨rfl,?_⟩;have h:=HB0.out;rw [hW] at h;exact h
 ·rw [decide_eq_false hp];obtain ⟨q,hq⟩:∃ q:Nat,Os.Op.held O (k:Int) gen = q:=⟨_,rfl⟩;have HQ:Hid (Os.Op.held O (k:Int) gen = q):=hq;rw [hq];clear hq;go_enter Tryz.func79,Tryz.ntmps79;go_wp2_with fail;rw [← hW];refine (Os.held_any _ O (k:Int) gen _ HO.out).mono ?_;rintro e w1 ⟨rfl,hb1⟩;rw [HQ.out];have HB1:=qJ HB0 hb1;clear hb1;go_wp2;go_ret;exact ⟨by simp,HB1.out⟩
theorem rf1_any (u:Value) (U:List (Int × Int)) (x:Os.Opn) (A:Nat) (w:World) (hu:AtW EH w u U) (hA:w.heap[A]? = some (BSl u 98)) :
  Calls Tryz.prog 76 #[.agg #[.int .i64 x.1,.int .i64 x.2.1,.int .i64 x.2.2.1,.int .i64 x.2.2.2],.pointer (some ⟨A,0,none⟩)] w fun e w'=>e = .returned (.bool (!decide ((x.2.2.1,x.2.2.2)∈U)))/\Bw w w':=by
 obtain ⟨x0,x1,x2,x3⟩:=x;have hA0:=sl_of hA;have hAl:=(qL hA);have HU:Hid (AtW EH (w.alloc (Os.BO (x0,x1,x2,x3))) u U):=hu.up (qG _ _);obtain ⟨p,c,rfl,-,-⟩:=hu.open;obtain ⟨r,hr⟩:=qE (decide ((x2,x3)∈U));have HR:Hid _:=hr;simp only;rw [hr];obtain ⟨n,hn⟩:=qE U.length;rw [hn] at hA0 HU;clear hu hA hr hn;go_enter Tryz.func76,Tryz.ntmps76;go_wp2_with fail;refine (contains_any _ U x2 x3 _ HU.out).mono ?_;rintro e w1 ⟨rfl,hb1⟩;rw [HR.out];have HB1:Hid _:=(qG _ _).trans (hb1.mono (by simp));clear hb1;go_wp2;go_ret;exact ⟨rfl,HB1.out⟩
theorem rf2_any {S:Nat->Prop} (vi vo:Value) (sp:Option Addr) (sn sc:Nat) (dn:Int) (L:List Rw) (O:List Os.Opn) (no gen:Int) (A:Nat) (w:World) (hv:TabAt S w vi L) (ho:AtW Os.EO w vo O) (hn:names (pl L) no gen = true) (hA:w.heap[A]? = some (BSt vi vo (.slice sp sn sc) dn)) :
  Calls Tryz.prog 78 #[.agg #[.int .i64 no,.int .i64 gen],.pointer (some ⟨A,0,none⟩)] w fun e w'=>e = .returned (.bool (!Nf.needB (pl L) O (no,gen)))/\Bw w w':=by
 have hAl:=(qL hA);have hb0:Bw w (w.alloc (BH no gen)):=qG _ _;obtain ⟨a0,a1,a2,a3⟩:=st_of hA;have HC:Hid (Calls Tryz.prog 79 #[VSt vi vo (.slice sp sn sc) dn,.agg #[.int .i64 no,.int .i64 gen]] (w.alloc (BH no gen)) fun e w'=>e = .returned (.bool (Nf.needB (pl L) O (no,gen)))/\Below (w.alloc (BH no gen)).heap.size (w.alloc (BH no gen)) w'):=needed_any vi vo sp sn sc dn L O no gen _ (hv.up hb0) (ho.up hb0) hn;obtain ⟨p,c,rfl,-,-⟩:=hv.open;obtain ⟨q,d,rfl,-,-⟩:=ho.open;obtain ⟨r,hr⟩:=qE (Nf.needB (pl L) O (no,gen));rw [hr] at HC ⊢;obtain ⟨n,hn'⟩:=qE L.length;obtain ⟨m,hm'⟩:=qE O.length;rw [hn'] at a0 HC;rw [hm'] at a1 HC;clear hv ho hn hA hb0 hr hn' hm';go_enter Tryz.func78,Tryz.ntmps78;go_wp2_with fail;refine HC.out.mono ?_;rintro e w1 ⟨rfl,hb1⟩;have HB1:Hid _:=(qG _ _).trans (hb1.mono (by simp));clear hb1 HC;go_wp2;go_ret;exact ⟨rfl,HB1.out⟩
theorem Nf.files_named {L:List Ino} {h:Int × Int} (hm:h∈Nf.files L):names L h.1 h.2 = true:=mem_used.1 (List.mem_filter.1 hm).1
theorem rightFiles_any {S:Nat->Prop} (vi vo:Value) (sp:Option Addr) (sn sc:Nat) (dn:Int) (L:List Rw) (O:List Os.Opn) (w:World) (hv:TabAt S w vi L) (ho:AtW Os.EO w vo O) (hL:L.length<=24) :
  Calls Tryz.prog 29 #[VSt vi vo (.slice sp sn sc) dn] w fun e w'=>e = .returned (.bool (Nf.filesOk (pl L) O))/\Bw w w':=by
 have HV:Hid (TabAt S w vi L):=hv;have HO:Hid (AtW Os.EO w vo O):=ho;have HL:Hid (L.length<=24):=hL;obtain ⟨W,hW⟩:=qF (w.alloc (BSt vi vo (.slice sp sn sc) dn));have HB0:Hid _:=qB hW;have HA0:Hid _:=qC hW;have hla:=(qL HA0.out);obtain ⟨p,c,rfl,-,-⟩:=hv.open;obtain ⟨q,d,rfl,-,-⟩:=ho.open;obtain ⟨n,hn'⟩:=qE L.length;obtain ⟨m,hm'⟩:=qE O.length;rw [hn'] at HV HA0 hW ⊢;rw [hm'] at HO HA0 hW ⊢;obtain ⟨r1,hr1⟩:=qE (O.any fun x=>!decide ((x.2.2.1,x.2.2.2)∈Nf.files (pl L)));obtain ⟨r2,hr2⟩:=qE ((Nf.files (pl L)).any fun h=>!Nf.needB (pl L) O h);have hE:Nf.filesOk (pl L) O = (!r1 && !r2):=by unfold Nf.filesOk;rw [hr1,hr2]
 rw [hE];have HR:Hid ((O.any fun x=>!decide ((x.2.2.1,x.2.2.2)∈Nf.files (pl L))) = r1/\((Nf.files (pl L)).any fun h=>!Nf.needB (pl L) O h) = r2):=⟨hr1,hr2⟩;obtain ⟨a0,a1,a2,a3⟩:=st_of HA0.out;clear hv ho hL hn' hm' hr1 hr2 hE;go_enter Tryz.func29,Tryz.ntmps29;go_wp2_with fail;rw [← hW];clear hW a0 a1 a2 a3;refine (files_any _ L _ (HV.out.up HB0.out) HL.out).mono ?_;rintro e w1 ⟨u1,rfl,hu1,hb1⟩;obtain ⟨W1,hW1⟩:=qF (w1.alloc (BSl u1 98));have bw1:Bw w1 W1:=by rw [hW1];exact qG _ _
 have bn1:Bw W W1:=hb1.trans (bw1.mono hb1.size);have HB1:Hid (Bw w W1):=HB0.out.trans (bn1.mono HB0.out.size);have HX1:Hid _:=qC hW1;have HY1:=qK hb1 HA0;have HA1:=qK bn1 HA0;have HU1:Hid (AtW EH W1 u1 (Nf.files (pl L))):=hu1.up bw1;obtain ⟨pu,cu,hsl,-,-⟩:=hu1.open;obtain ⟨k,hk⟩:=qE ((Nf.files (pl L)).length);rw [hk] at hsl;subst hsl;have hly1:=(qL HY1.out);have hla1:=(qL HA1.out);have hlx1:=(qL HX1.out);obtain ⟨a0,a1,a2,a3⟩:=st_of HY1.out;clear hu1 hb1 bw1 bn1 hk;go_wp2_with fail;rw [← hW1];clear hW1 a0 a1 a2 a3;refine (conNo _ O (fun x=>!decide ((x.2.2.1,x.2.2.2)∈Nf.files (pl L))) w1.heap.size _ (HO.out.up HB1.out) (fun x hx V hb=>rf1_any _ (Nf.files (pl L)) x w1.heap.size V (HU1.out.up hb) ((hb.block _ hlx1).trans HX1.out))).mono ?_;rintro e w2 ⟨rfl,hb2⟩;rw [HR.out.1];have HB2:Hid (Bw w w2):=HB1.out.trans (hb2.mono HB1.out.size);have HX2:=qK hb2 HX1;have HA2:=qK hb2 HA1;have HU2:Hid (AtW EH w2 (.slice pu k cu) (Nf.files (pl L))):=HU1.out.up hb2;have hla2:=(qL HA2.out);clear hb2
 cases r1 with
 | true =>
  go_wp2;go_ret;exact ⟨rfl,HB2.out⟩
 | false =>
  have x0:=sl_of HX2.out;go_wp2_with fail;refine (conUn _ (Nf.files (pl L)) (fun h=>!Nf.needB (pl L) O h) w.heap.size _ HU2.out (fun x hx V hb=>rf2_any _ _ sp sn sc dn L O x.1 x.2 w.heap.size V ((HV.out.up HB2.out).up hb) ((HO.out.up HB2.out).up hb) (Nf.files_named hx) ((hb.block _ hla2).trans HA2.out))).mono ?_;rintro e w3 ⟨rfl,hb3⟩;rw [HR.out.2];have HB3:Hid (Bw w w3):=HB2.out.trans (hb3.mono HB2.out.size);clear hb3;go_wp2;go_ret;exact ⟨by simp,HB3.out⟩
theorem nwithin_any (lo x hi:Int) (w:World):Calls Tryz.prog 46 #[.int .i64 lo,.int .i64 x,.int .i64 hi] w fun e w'=>e = .returned (.bool (decide (lo<=x/\x<=hi)))/\w' = w:=by
 by_cases h1:lo<=x
 ·by_cases h2:x<=hi
  ·rw [decide_eq_true ⟨h1,h2⟩];go_enter Tryz.func46,Tryz.ntmps46;go_wp2;go_ret;exact ⟨rfl,rfl⟩
  ·rw [decide_eq_false (fun h=>h2 h.2)];go_enter Tryz.func46,Tryz.ntmps46;go_wp2;go_ret;exact ⟨rfl,rfl⟩
 ·rw [decide_eq_false (fun h=>h1 h.1)];go_enter Tryz.func46,Tryz.ntmps46;go_wp2;go_ret;exact ⟨rfl,rfl⟩
theorem rd1_any (vi vo vs:Value) (dn:Int) (x:Rw) (A:Nat) (w:World) (hA:w.heap[A]? = some (BSt vi vo vs dn)) :
  Calls Tryz.prog 83 #[VI x,.pointer (some ⟨A,0,none⟩)] w fun e w'=>e = .returned (.bool (decide (dn < x.i.stamp)))/\Bw w w':=by
 have hAl:=(qL hA);obtain ⟨a0,a1,a2,a3⟩:=st_of hA;go_enter Tryz.func83,Tryz.ntmps83;go_wp2;go_ret;exact ⟨rfl,qG _ _⟩
theorem tab_at {S:Nat->Prop} {w:World} {v:Value} {L:List Rw} (h:TabAt S w v L):AtW EI w v L:=h.1.wide
theorem rightDone_any {S:Nat->Prop} (vi:Value) (op:Option Addr) (on oc:Nat) (sp:Option Addr) (sn sc:Nat) (dn:Int) (L:List Rw) (w:World) (hv:TabAt S w vi L) :
  Calls Tryz.prog 31 #[VSt vi (.slice op on oc) (.slice sp sn sc) dn] w fun e w'=>e = .returned (.bool (Nf.doneOk (pl L) dn))/\Bw w w':=by
 have HV:Hid (TabAt S w vi L):=hv;obtain ⟨W,hW⟩:=qF (w.alloc (BSt vi (.slice op on oc) (.slice sp sn sc) dn));have HB0:Hid _:=qB hW;have HA0:Hid _:=qC hW;have hla:=(qL HA0.out);obtain ⟨p,c,rfl,-,-⟩:=hv.open;obtain ⟨n,hn'⟩:=qE L.length;rw [hn'] at HV HA0 hW ⊢;obtain ⟨r1,hr1⟩:=qE (decide (0<=dn/\dn<=1099511627776));obtain ⟨r2,hr2⟩:=qE (L.any fun x=>decide (dn < x.i.stamp));have hE:Nf.doneOk (pl L) dn = (r1 && !r2):=by
  unfold Nf.doneOk;rw [hr1,List.any_map];have e:(L.any ((fun x=>decide (dn < x.stamp)) ∘ Rw.i)) = r2:=hr2;rw [e]
 rw [hE];have HR:Hid (decide (0<=dn/\dn<=1099511627776) = r1/\(L.any fun x=>decide (dn < x.i.stamp)) = r2):=⟨hr1,hr2⟩;obtain ⟨a0,a1,a2,a3⟩:=st_of HA0.out;clear hv hn' hr1 hr2 hE;go_enter Tryz.func31,Tryz.ntmps31;go_wp2_with fail;rw [← hW];clear hW;refine (nwithin_any _ _ _ _).mono ?_;rintro e w1 ⟨rfl,hw1⟩;obtain rfl:W = w1:=hw1.symm;clear hw1;rw [HR.out.1]
 cases r1 with
 | false =>
  go_wp2;go_ret;exact ⟨rfl,HB0.out⟩
 | true =>
  go_wp2_with fail;refine (conLa _ L (fun x=>decide (dn < x.i.stamp)) w.heap.size _ (tab_at (HV.out.up HB0.out)) (fun x hx V hb=>rd1_any _ _ _ dn x w.heap.size V ((hb.block _ hla).trans HA0.out))).mono ?_;rintro e w2 ⟨rfl,hb2⟩;rw [HR.out.2];have HB2:=qJ HB0 hb2;clear hb2;go_wp2;go_ret;exact ⟨by simp,HB2.out⟩
theorem sp_len24 {L:List Rw} (h:Sp.isSp (pl L) = true):L.length<=24:=by
 have:=(Sp.right_len (Sp.isSp_iff.1 h).1).2;simpa using this
noncomputable def Nf.chk (L:List Ino) (O:List Os.Opn) (dn:Int):Int:=if Nf.right L O dn = true then 0 else 4
theorem ncheck_any {S:Nat->Prop} (vi vo:Value) (sp:Option Addr) (sn sc:Nat) (dn:Int) (L:List Rw) (O:List Os.Opn) (w:World) (hv:TabAt S w vi L) (hok:Sp.okN L) (ho:AtW Os.EO w vo O) :
  Calls Tryz.prog 13 #[VSt vi vo (.slice sp sn sc) dn] w fun e w'=>e = .returned (.int .i64 (Nf.chk (pl L) O dn))/\Bw w w':=by
 have HV:Hid (TabAt S w vi L):=hv;have HO:Hid (AtW Os.EO w vo O):=ho;have HOK:Hid (Sp.okN L):=hok;obtain ⟨W,hW⟩:=qF (w.alloc (BSt vi vo (.slice sp sn sc) dn));have HB0:Hid _:=qB hW;have HA0:Hid _:=qC hW;obtain ⟨p,c,rfl,-,-⟩:=hv.open;obtain ⟨q,d,rfl,-,-⟩:=ho.open;obtain ⟨n,hn'⟩:=qE L.length;obtain ⟨m,hm'⟩:=qE O.length;rw [hn'] at HV HA0 hW ⊢;rw [hm'] at HO HA0 hW ⊢;obtain ⟨r1,hr1⟩:=qE (Sp.isSp (pl L));obtain ⟨r2,hr2⟩:=qE (Os.Op.right 0 O);obtain ⟨r3,hr3⟩:=qE (Nf.filesOk (pl L) O);obtain ⟨r4,hr4⟩:=qE (allBytes (pl L));obtain ⟨r5,hr5⟩:=qE (Nf.doneOk (pl L) dn);have hE:Nf.chk (pl L) O dn = if (r1 && (r2 && (r3 && (decide (r4<=8192) && r5)))) = true then 0 else 4:=by
  unfold Nf.chk Nf.right;rw [hr1,hr2,hr3,hr4,hr5]
 rw [hE];have HR:Hid (Sp.isSp (pl L) = r1/\Os.Op.right 0 O = r2/\Nf.filesOk (pl L) O = r3/\allBytes (pl L) = r4/\Nf.doneOk (pl L) dn = r5):=⟨hr1,hr2,hr3,hr4,hr5⟩;obtain ⟨a0,a1,a2,a3⟩:=st_of HA0.out;have hla:=(qL HA0.out);clear hv ho hok hn' hm' hr1 hr2 hr3 hr4 hr5 hE;go_enter Tryz.func13,Tryz.ntmps13;go_wp2_with fail;rw [← hW];clear hW a0 a1 a2 a3;refine (scheck_any S _ L _ (HV.out.up HB0.out) HOK.out).mono ?_;rintro e w1 ⟨rfl,hb1⟩;have HB1:=qJ HB0 hb1;have HA1:Hid _:=(hb1.block _ hla).trans HA0.out;clear hb1
 cases r1 with
 | false =>
  have hc:Sp.chk Sp.isSp (pl L) = 4:=by unfold Sp.chk;rw [HR.out.1];rfl
  rw [hc];clear hc;go_wp2;go_ret;exact ⟨rfl,HB1.out⟩
 | true =>
  have hc:Sp.chk Sp.isSp (pl L) = 0:=by unfold Sp.chk;rw [HR.out.1];rfl
  have HL:Hid _:=sp_len24 HR.out.1;rw [hc];clear hc;obtain ⟨a0,a1,a2,a3⟩:=st_of HA1.out;have hl1:=(qL HA1.out);go_wp2_with fail;clear a0 a1 a2 a3;refine (Os.check_any _ O _ (HO.out.up HB1.out)).mono ?_;rintro e w2 ⟨rfl,hb2⟩;rw [HR.out.2.1];have HB2:=qJ HB1 hb2;have HA2:Hid _:=(hb2.block _ hl1).trans HA1.out;clear hb2
  cases r2 with
  | false =>
   rw [if_neg (by decide)];go_wp2;go_ret;exact ⟨rfl,HB2.out⟩
  | true =>
   rw [if_pos rfl];obtain ⟨a0,a1,a2,a3⟩:=st_of HA2.out;have hl2:=(qL HA2.out);go_wp2_with fail;clear a0 a1 a2 a3;refine (rightFiles_any _ _ sp sn sc dn L O _ (HV.out.up HB2.out) (HO.out.up HB2.out) HL.out).mono ?_;rintro e w3 ⟨rfl,hb3⟩;rw [HR.out.2.2.1];have HB3:=qJ HB2 hb3;have HA3:Hid _:=(hb3.block _ hl2).trans HA2.out;clear hb3
   cases r3 with
   | false =>
    go_wp2;go_ret;exact ⟨rfl,HB3.out⟩
   | true =>
    obtain ⟨a0,a1,a2,a3⟩:=st_of HA3.out;have hl3:=(qL HA3.out);go_wp2_with fail;clear a0 a1 a2 a3;refine (ibytes_any _ L _ (HV.out.up HB3.out)).mono ?_;rintro e w4 ⟨rfl,hb4⟩;rw [HR.out.2.2.2.1];have HB4:=qJ HB3 hb4;have HA4:Hid _:=(hb4.block _ hl3).trans HA3.out;clear hb4
    by_cases h8:r4<=8192
    ·have t8:decide (r4<=8192) = true:=decide_eq_true h8;obtain ⟨a0,a1,a2,a3⟩:=st_of HA4.out;have hl4:=(qL HA4.out);go_wp2_with fail;clear a0 a1 a2 a3;refine (rightDone_any _ q m d sp sn sc dn L _ (HV.out.up HB4.out)).mono ?_;rintro e w5 ⟨rfl,hb5⟩;rw [HR.out.2.2.2.2];have HB5:=qJ HB4 hb5;clear hb5
     cases r5 with
     | false =>
      go_wp2
      all_goals (go_ret;exact ⟨by simp,HB5.out⟩)
     | true =>
      go_wp2
      all_goals (go_ret;exact ⟨by simp,HB5.out⟩)
    ·have t8:decide (r4<=8192) = false:=decide_eq_false h8;go_wp2
     all_goals (go_ret;exact ⟨by simp,HB4.out⟩)
noncomputable def Nf.refE (L:List Ino) (O:List Os.Opn) (dn client:Int):Int:=if Nf.right L O dn = true then (if dn = 1099511627776 then 5 else if 0<=client/\client<=1099511627776 then 0 else 1) else 4
theorem nrefuse_any {S:Nat->Prop} (vi vo:Value) (sp:Option Addr) (sn sc:Nat) (dn client:Int) (L:List Rw) (O:List Os.Opn) (w:World) (hv:TabAt S w vi L) (hok:Sp.okN L) (ho:AtW Os.EO w vo O) :
  Calls Tryz.prog 21 #[VSt vi vo (.slice sp sn sc) dn,.int .i64 client] w fun e w'=>e = .returned (.int .i64 (Nf.refE (pl L) O dn client))/\Bw w w':=by
 have HV:Hid (TabAt S w vi L):=hv;have HO:Hid (AtW Os.EO w vo O):=ho;have HOK:Hid (Sp.okN L):=hok;obtain ⟨W,hW⟩:=qF (w.alloc (BSt vi vo (.slice sp sn sc) dn));have HB0:Hid _:=qB hW;have HA0:Hid _:=qC hW;obtain ⟨p,c,rfl,-,-⟩:=hv.open;obtain ⟨q,d,rfl,-,-⟩:=ho.open;obtain ⟨n,hn'⟩:=qE L.length;obtain ⟨m,hm'⟩:=qE O.length;rw [hn'] at HV HA0 hW ⊢;rw [hm'] at HO HA0 hW ⊢;obtain ⟨E,hE⟩:=qE (Nf.refE (pl L) O dn client);rw [hE];unfold Nf.refE at hE;have hla:=(qL HA0.out);obtain ⟨a0,a1,a2,a3⟩:=st_of HA0.out;clear hv ho hok hn' hm';go_enter Tryz.func21,Tryz.ntmps21;go_wp2_with fail;rw [← hW];clear hW a0 a1 a2 a3;refine (ncheck_any _ _ sp sn sc dn L O _ (HV.out.up HB0.out) HOK.out (HO.out.up HB0.out)).mono ?_;rintro e w1 ⟨rfl,hb1⟩;have HB1:Hid (Bw w w1):=HB0.out.trans (hb1.mono HB0.out.size);have HA1:=qK hb1 HA0;clear hb1;unfold Nf.chk
 by_cases h1:Nf.right (pl L) O dn = true
 ·rw [if_pos h1] at hE;rw [if_pos h1];obtain ⟨a0,a1,a2,a3⟩:=st_of HA1.out;have hl1:=(qL HA1.out)
  by_cases h2:dn = 1099511627776
  ·rw [if_pos h2] at hE;subst hE;have t2:(dn == 1099511627776) = true:=by simp [h2]
   go_wp2;go_ret;exact ⟨rfl,HB1.out⟩
  ·rw [if_neg h2] at hE;have t2:(dn == 1099511627776) = false:=beq_eq_false_iff_ne.2 h2;obtain ⟨r,hr⟩:=qE (decide (0<=client/\client<=1099511627776));go_wp2_with fail;refine (nwithin_any _ _ _ _).mono ?_;rintro e w2 ⟨rfl,hw2⟩;obtain rfl:w1 = w2:=hw2.symm;clear hw2;rw [hr]
   cases r with
   | true =>
    rw [if_pos (of_decide_eq_true hr)] at hE;subst hE;go_wp2;go_ret;exact ⟨rfl,HB1.out⟩
   | false =>
    rw [if_neg (of_decide_eq_false hr)] at hE;subst hE;go_wp2;go_ret;exact ⟨rfl,HB1.out⟩
 ·rw [if_neg h1] at hE;subst hE;rw [if_neg h1];go_wp2;go_ret;exact ⟨rfl,HB1.out⟩
end
end Go.Proofs.YtneojimodomohaaGreat
namespace Go.Proofs.YtneojimodomohaaGreat.Ks
namespace Pl
/-- The last k bytes of m, big end first. -/
def digits (k m:Nat):List UInt8:=(List.range k).map fun j=>UInt8.ofNat (m / 256 ^ (k - 1 - j) % 256)
def txt (l:List UInt8):ByteArray:=⟨l.toArray⟩
def numBad (n size:Int):Bool:=decide (size < 1∨8 < size∨n < 0) || decide (n.toNat / 256 ^ size.toNat≠0)
def numOut (n size:Int):ByteArray:=if numBad n size then txt [] else txt (digits size.toNat n.toNat)
/-- The number that bytes are. -/
def numOf (l:List UInt8):Nat:=l.foldl (fun n b=>256 * n + b.toNat) 0
def sNum (s:ByteArray):Bool:=decide (s.size < 1∨8 < s.size)
def fNum (s:ByteArray):Bool:=decide (s.size = 8) && decide (128<=(s.data.toList.headD 0).toNat)
def numVal (s:ByteArray):Int:=if sNum s || fNum s then 0 else numOf s.data.toList
end Pl
namespace Pl
def encOne (x:Int × ByteArray):List UInt8:=[UInt8.ofNat x.1.toNat,UInt8.ofNat (x.2.size / 256),UInt8.ofNat (x.2.size % 256)] ++ x.2.data.toList
def encs (l:List (Int × ByteArray)):List UInt8:=l.flatMap encOne
end Pl
namespace Pl
def join (d:List (Int × ByteArray)) (r:List (Int × ByteArray) × Int):List (Int × ByteArray) × Int:=if r.2 = 0 then (d ++ r.1,0) else ([],r.2)
end Pl
namespace Ak
structure Cl where
  k:Int
  no:Int
  gen:Int
  no2:Int
  gen2:Int
  nm:ByteArray
  nm2:ByteArray
  pl:Int
  n:Int
  data:ByteArray
def zero:Cl:=⟨0,0,0,0,0,⟨#[]⟩,⟨#[]⟩,0,0,⟨#[]⟩⟩
abbrev hokP (no gen:Int):Prop:=(0<=no/\no<=255)/\(0<=gen/\gen<=1099511627776)
def hok (no gen:Int):Bool:=decide (hokP no gen)
abbrev rightP (c:Cl):Prop:=(1<=c.k/\c.k<=14)/\hokP c.no c.gen/\hokP c.no2 c.gen2/\c.nm.size<=255/\c.nm2.size<=255/\(0<=c.pl/\c.pl<=4294967295)/\(0<=c.n/\c.n<=65535)/\c.data.size<=1024
def right (c:Cl):Bool:=decide (rightP c)
theorem right_iff {c:Cl}:right c = true ↔ rightP c:=by simp [right]
theorem wrong_iff {c:Cl}:right c = false ↔ ¬ rightP c:=by simp [right]
def opt (b:Bool) (x:Int × ByteArray):List (Int × ByteArray):=if b then [x] else []
def hnz (no gen:Int):Bool:=!(no == 0 && gen == 0)
def snz (s:ByteArray):Bool:=!s.toList.isEmpty
def hbytes (no gen:Int):ByteArray:=Pl.numOut no 1 ++ Pl.numOut gen 6
def f1 (c:Cl):List (Int × ByteArray):=[(1,Pl.numOut c.k 1)]
def f2 (c:Cl):=f1 c ++ opt (hnz c.no c.gen) (2,hbytes c.no c.gen)
def f3 (c:Cl):=f2 c ++ opt (hnz c.no2 c.gen2) (3,hbytes c.no2 c.gen2)
def f4 (c:Cl):=f3 c ++ opt (snz c.nm) (4,c.nm)
def f5 (c:Cl):=f4 c ++ opt (snz c.nm2) (5,c.nm2)
def f6 (c:Cl):=f5 c ++ opt (c.pl != 0) (6,Pl.numOut c.pl 4)
def f7 (c:Cl):=f6 c ++ opt (c.n != 0) (7,Pl.numOut c.n 2)
def fields (c:Cl):=f7 c ++ opt (snz c.data) (8,c.data)
/-- The handle that bytes are. -/
def hno (s:ByteArray):Int:=if s.size = 7 then Pl.numVal (s.extract 0 1) else 0
end Ak
end Go.Proofs.YtneojimodomohaaGreat.Ks
namespace Go.Proofs.YtneojimodomohaaGreat.Ks
open Go.ChangeShapes Go.WideShapes Go.ChangeAt Go.RowKit Go.Deep
end Go.Proofs.YtneojimodomohaaGreat.Ks
