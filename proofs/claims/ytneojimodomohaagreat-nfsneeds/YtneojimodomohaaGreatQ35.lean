/- Same, OSame, NSm, Law, NOpS, NOpD, NOr0, as one. -/
import Derived.ChangeMaps5
import Derived.Test.YtneojimodomohaaGreatQ34
namespace Go.Proofs.YtneojimodomohaaGreat
open Go.ChangeShapes Go.WideShapes Go.ChangeAt Go.RowKit Go.Deep It
set_option maxRecDepth 100000
set_option maxHeartbeats 1000000 in
theorem entries_same {S T:Nat->Prop} (u v:Value) (l:List (ByteArray × Int × Int × Int)) (w:World) (hu:At EE S w u l) (hv:At EE T w v l) :
    Calls Tryz.prog 41 #[u,v] w fun e w'=>e = .returned (.bool true)/\Below w.heap.size w w':=by
  obtain ⟨ao,cap,rfl,hm,hx⟩:=hu.open
  obtain ⟨bo,cap',rfl,_,hy⟩:=hv.open
  clear hu hv
  unfold maxLen at hm
  obtain ⟨n,hn⟩:∃ n,l.length = n:=⟨_,rfl⟩
  rw [hn] at hm ⊢
  have HN:Hid (l.length = n):=hn
  have HX:Hid (∀ i x,l[i]? = some x->∃ b off,ao = some ⟨b,off,none⟩/\S b/\b < w.heap.size/\∀ k u,(EE.cells x)[k]? = some u->w.cell? ⟨b,off + (i * 4 + k),none⟩ = some u):=hx
  have HY:Hid (∀ i x,l[i]? = some x->∃ b off,bo = some ⟨b,off,none⟩/\T b/\b < w.heap.size/\∀ k u,(EE.cells x)[k]? = some u->w.cell? ⟨b,off + (i * 4 + k),none⟩ = some u):=hy
  clear hn hx hy
  go_enter Tryz.func41,Tryz.ntmps41
  go_wp2
  go_loopw [8] (fun i wr=>∃ k:Nat,k<=n/\i = .int .i64 k/\Below w.heap.size w wr) (fun i _=>n - (intOf i).toNat)
  case atStart=>exact ⟨0,Nat.zero_le _,rfl,Below.refl _ _⟩
  case round =>
    obtain ⟨k,hk,rfl,hbl⟩:=hrel
    by_cases hlt:k < n
    · obtain ⟨y, hyk⟩ : ∃ y, l[k]? = some y := ⟨_, List.getElem?_eq_getElem (by rw [HN.out]; exact hlt)⟩
      obtain ⟨b,off,rfl,_,hB,hc⟩:=HX.out k y hyk
      obtain ⟨b',off',rfl,_,hB',hc'⟩:=HY.out k y hyk
      have c0:=hc 0 _ rfl
      have c1:=hc 1 _ rfl
      have c2:=hc 2 _ rfl
      have c3:=hc 3 _ rfl
      have d0:=hc' 0 _ rfl
      have d1:=hc' 1 _ rfl
      have d2:=hc' 2 _ rfl
      have d3:=hc' 3 _ rfl
      rw [← hbl.cell (p:=⟨b,off + (k * 4 + 0),none⟩) hB,Nat.add_zero] at c0
      rw [← hbl.cell (p:=⟨b,off + (k * 4 + 1),none⟩) hB,← Nat.add_assoc] at c1
      rw [← hbl.cell (p:=⟨b,off + (k * 4 + 2),none⟩) hB,← Nat.add_assoc] at c2
      rw [← hbl.cell (p:=⟨b,off + (k * 4 + 3),none⟩) hB,← Nat.add_assoc] at c3
      rw [← hbl.cell (p:=⟨b',off' + (k * 4 + 0),none⟩) hB',Nat.add_zero] at d0
      rw [← hbl.cell (p:=⟨b',off' + (k * 4 + 1),none⟩) hB',← Nat.add_assoc] at d1
      rw [← hbl.cell (p:=⟨b',off' + (k * 4 + 2),none⟩) hB',← Nat.add_assoc] at d2
      rw [← hbl.cell (p:=⟨b',off' + (k * 4 + 3),none⟩) hB',← Nat.add_assoc] at d3
      obtain ⟨y0,y1,y2,y3⟩:=y
      simp only at c0 c1 c2 c3 d0 d1 d2 d3
      have hlt':(k:Int) < (n:Int):=by omega
      have hge:decide ((n:Int)<=(k:Int)) = false:=by simp;omega
      have hge2:decide (n<=k) = false:=by simp;omega
      clear hyk hc hc'
      go_wp2
      go_quiet (fail)
      go_wp2
      go_roundw
      case rel=>exact ⟨k + 1,by omega,by go_num,Go.below_drewN hbl _⟩
      case measure=>simp [intOf];omega
    · obtain rfl : k = n := by omega
      go_wp2
      go_ret
      exact ⟨by simp,hbl⟩
theorem eight_grw {w:World} {b o:Nat} {x:Rw} (h:eight w b o x) (p:Grw w):eight p.out b o x:=h.below p.below (World.block_lt_of_cell? _ _ h.1)
set_option maxHeartbeats 4000000 in
set_option maxRecDepth 100000 in
theorem inodes_same {S T : Nat → Prop} (u v : Value) (L M : List Rw) (w : World) (hu : TabAt S w u L) (hv : TabAt T w v M) (hp : pl L = pl M) :
    Calls Tryz.prog 38 #[u,v] w fun e w'=>e = .returned (.bool true)/\Below w.heap.size w w':=by
  obtain ⟨ao,cap,rfl,hm,hx⟩:=hu.open
  obtain ⟨bo,cap',rfl,_,hy⟩:=hv.open
  clear hu hv
  unfold maxLen at hm
  have hlen:M.length = L.length:=by have:=congrArg List.length hp;simpa [pl] using this.symm
  rw [hlen]
  obtain ⟨n,hn⟩:∃ n,L.length = n:=⟨_,rfl⟩
  rw [hn] at hm hlen ⊢
  have HN:Hid (L.length = n/\M.length = n):=⟨hn,hlen⟩
  have HP:Hid (pl L = pl M):=hp
  have HX:Hid (∀ i x,L[i]? = some x->(∃ b off,ao = some ⟨b,off,none⟩/\b < w.heap.size/\eight w b (off + i * 8) x)/\Good S w x):=hx
  have HY:Hid (∀ i x,M[i]? = some x->(∃ b off,bo = some ⟨b,off,none⟩/\b < w.heap.size/\eight w b (off + i * 8) x)/\Good T w x):=hy
  clear hn hlen hx hy hp
  go_enter Tryz.func38,Tryz.ntmps38
  go_wp2
  go_loopw [8] (fun i wr=>∃ k:Nat,k<=n/\i = .int .i64 k/\Below w.heap.size w wr) (fun i _=>n - (intOf i).toNat)
  case atStart=>exact ⟨0,Nat.zero_le _,rfl,Below.refl _ _⟩
  case round =>
    obtain ⟨k,hk,rfl,hbl⟩:=hrel
    by_cases hlt:k < n
    · obtain ⟨x, hxk⟩ : ∃ y, L[k]? = some y := ⟨_, List.getElem?_eq_getElem (by rw [HN.out.1]; exact hlt)⟩
      obtain ⟨y,hyk⟩:∃ y,M[k]? = some y:=⟨_,List.getElem?_eq_getElem (by rw [HN.out.2];exact hlt)⟩
      have hxy:y.i = x.i:=by
        have:=congrArg (fun l=>l[k]?) HP.out
        simp only [pl,List.getElem?_map,hxk,hyk,Option.map_some,Option.some.injEq] at this
        exact this.symm
      obtain ⟨⟨b,off,rfl,hB,hc⟩,hgx⟩:=HX.out k x hxk
      obtain ⟨⟨b',off',rfl,hB',hc'⟩,hgy⟩:=HY.out k y hyk
      have HR:Hid (∀ W,wr.grownBy W none->Calls Tryz.prog 90 #[.slice x.rp x.rn x.rc,.slice y.rp y.rn y.rc] W fun e w'=>e = .returned (.bool true)/\Below W.heap.size W w'):=fun W hW=>by
        have h1:=((hgx.up hbl).up (below_none hW (Nat.le_refl _))).1.fields
        have h2:=((hgy.up hbl).up (below_none hW (Nat.le_refl _))).1.fields
        rw [hxy] at h2
        exact runs_same _ _ _ W h1 h2
      have HE:Hid (∀ W,wr.grownBy W none->Calls Tryz.prog 41 #[.slice x.ep x.en x.ec,.slice y.ep y.en y.ec] W fun e w'=>e = .returned (.bool true)/\Below W.heap.size W w'):=fun W hW=>by
        have h1:=((hgx.up hbl).up (below_none hW (Nat.le_refl _))).2.1
        have h2:=((hgy.up hbl).up (below_none hW (Nat.le_refl _))).2.1
        rw [hxy] at h2
        exact entries_same _ _ _ W h1 h2
      have hcx:=eight_grw (hc.below hbl hB)
      have hcy:=eight_grw (hc'.below hbl hB')
      unfold eight at hcx hcy
      rw [hxy] at hcy
      have HB:Hid (Below w.heap.size w wr):=hbl
      obtain ⟨⟨g,kk,l,s,t,rs,es,nx⟩,rp,rn,rc,ep,en,ec⟩:=x
      obtain ⟨yi,yrp,yrn,yrc,yep,yen,yec⟩:=y
      simp only at hcx hcy HR HE
      have a0:=fun p=>(hcx p).1
      have a1:=fun p=>(hcx p).2.1
      have a2:=fun p=>(hcx p).2.2.1
      have a3:=fun p=>(hcx p).2.2.2.1
      have a4:=fun p=>(hcx p).2.2.2.2.1
      have a5:=fun p=>(hcx p).2.2.2.2.2.1
      have a6:=fun p=>(hcx p).2.2.2.2.2.2.1
      have a7:=fun p=>(hcx p).2.2.2.2.2.2.2
      have b0:=fun p=>(hcy p).1
      have b1:=fun p=>(hcy p).2.1
      have b2:=fun p=>(hcy p).2.2.1
      have b3:=fun p=>(hcy p).2.2.2.1
      have b4:=fun p=>(hcy p).2.2.2.2.1
      have b5:=fun p=>(hcy p).2.2.2.2.2.1
      have b6:=fun p=>(hcy p).2.2.2.2.2.2.1
      have b7:=fun p=>(hcy p).2.2.2.2.2.2.2
      have hlt':(k:Int) < (n:Int):=by omega
      have hge:decide ((n:Int)<=(k:Int)) = false:=by simp;omega
      have hge2:decide (n<=k) = false:=by simp;omega
      have hne9:Nonempty (Grw wr):=grw_some wr
      clear hxk hyk hxy hc hc' hgx hgy hcx hcy hbl hB hB'
      go_wp2_with fail
      simp only [List.cons_append,List.nil_append,List.append_eq]
      refine wp_region_grw (by kernel_rfl) (by kernel_rfl) ?_
      repeat (go_big_quiet_step (first | (go_at_call 90;refine calls_grw (Grw.grown _) (HR.out _ (Grw.grown _))) | (go_at_call 41;refine calls_grw (Grw.grown _) (HE.out _ (Grw.grown _)))))
      refine wpQuiet_nil ?_
      rintro wq ⟨p,rfl⟩
      have HBq:Hid (Below w.heap.size w p.out):=HB.out.trans (p.below.mono HB.out.size)
      go_wp2
      go_roundw
      case rel=>exact ⟨k + 1,by omega,by go_num,HBq.out⟩
      case measure=>simp [intOf];omega
    · obtain rfl : k = n := by omega
      go_wp2
      go_ret
      exact ⟨by simp,hbl⟩
end Go.Proofs.YtneojimodomohaaGreat
namespace Go.Proofs.YtneojimodomohaaGreat.Os
open Go.ChangeShapes Go.WideShapes Go.ChangeAt Go.RowKit Go.Deep
set_option maxRecDepth 100000
set_option maxHeartbeats 1000000 in
theorem opens_same {S T:Nat->Prop} (u v:Value) (l:List Opn) (w:World) (hu:At EO S w u l) (hv:At EO T w v l) :
    Calls Tryz.prog 39 #[u,v] w fun e w'=>e = .returned (.bool true)/\Below w.heap.size w w':=by
  obtain ⟨ao,cap,rfl,hm,hx⟩:=hu.open
  obtain ⟨bo,cap',rfl,_,hy⟩:=hv.open
  clear hu hv
  unfold maxLen at hm
  obtain ⟨n,hn⟩:∃ n,l.length = n:=⟨_,rfl⟩
  rw [hn] at hm ⊢
  have HN:Hid (l.length = n):=hn
  have HX:Hid (∀ i x,l[i]? = some x->∃ b off,ao = some ⟨b,off,none⟩/\S b/\b < w.heap.size/\∀ k u,(EO.cells x)[k]? = some u->w.cell? ⟨b,off + (i * 4 + k),none⟩ = some u):=hx
  have HY:Hid (∀ i x,l[i]? = some x->∃ b off,bo = some ⟨b,off,none⟩/\T b/\b < w.heap.size/\∀ k u,(EO.cells x)[k]? = some u->w.cell? ⟨b,off + (i * 4 + k),none⟩ = some u):=hy
  clear hn hx hy
  go_enter Tryz.func39,Tryz.ntmps39
  go_wp2
  go_loopw [8] (fun i wr=>∃ k:Nat,k<=n/\i = .int .i64 k/\Below w.heap.size w wr) (fun i _=>n - (intOf i).toNat)
  case atStart=>exact ⟨0,Nat.zero_le _,rfl,Below.refl _ _⟩
  case round =>
    obtain ⟨k,hk,rfl,hbl⟩:=hrel
    by_cases hlt:k < n
    · obtain ⟨y, hyk⟩ : ∃ y, l[k]? = some y := ⟨_, List.getElem?_eq_getElem (by rw [HN.out]; exact hlt)⟩
      obtain ⟨b,off,rfl,_,hB,hc⟩:=HX.out k y hyk
      obtain ⟨b',off',rfl,_,hB',hc'⟩:=HY.out k y hyk
      have c0:=hc 0 _ rfl
      have c1:=hc 1 _ rfl
      have c2:=hc 2 _ rfl
      have c3:=hc 3 _ rfl
      have d0:=hc' 0 _ rfl
      have d1:=hc' 1 _ rfl
      have d2:=hc' 2 _ rfl
      have d3:=hc' 3 _ rfl
      rw [← hbl.cell (p:=⟨b,off + (k * 4 + 0),none⟩) hB,Nat.add_zero] at c0
      rw [← hbl.cell (p:=⟨b,off + (k * 4 + 1),none⟩) hB,← Nat.add_assoc] at c1
      rw [← hbl.cell (p:=⟨b,off + (k * 4 + 2),none⟩) hB,← Nat.add_assoc] at c2
      rw [← hbl.cell (p:=⟨b,off + (k * 4 + 3),none⟩) hB,← Nat.add_assoc] at c3
      rw [← hbl.cell (p:=⟨b',off' + (k * 4 + 0),none⟩) hB',Nat.add_zero] at d0
      rw [← hbl.cell (p:=⟨b',off' + (k * 4 + 1),none⟩) hB',← Nat.add_assoc] at d1
      rw [← hbl.cell (p:=⟨b',off' + (k * 4 + 2),none⟩) hB',← Nat.add_assoc] at d2
      rw [← hbl.cell (p:=⟨b',off' + (k * 4 + 3),none⟩) hB',← Nat.add_assoc] at d3
      obtain ⟨y0,y1,y2,y3⟩:=y
      simp only at c0 c1 c2 c3 d0 d1 d2 d3
      have hlt':(k:Int) < (n:Int):=by omega
      have hge:decide ((n:Int)<=(k:Int)) = false:=by simp;omega
      have hge2:decide (n<=k) = false:=by simp;omega
      clear hyk hc hc'
      go_wp2
      go_quiet (fail)
      go_wp2
      go_roundw
      case rel=>exact ⟨k + 1,by omega,by go_num,Go.below_drewN hbl _⟩
      case measure=>simp [intOf];omega
    · obtain rfl : k = n := by omega
      go_wp2
      go_ret
      exact ⟨by simp,hbl⟩
end Go.Proofs.YtneojimodomohaaGreat.Os
namespace Go.Proofs.YtneojimodomohaaGreat
open Go.ChangeShapes Go.WideShapes Go.ChangeAt Go.RowKit Go.Deep It
set_option maxRecDepth 100000
namespace Es
abbrev Sea:=Int × Int × ByteArray
def ES:Enc Sea:=⟨3,fun x=>[.int .i64 x.1,.int .i64 x.2.1,.string x.2.2],fun _=>rfl,fun x u hu=>by
 simp at hu
 rcases hu with rfl | rfl | rfl <;> rfl⟩
abbrev VS (x:Sea):Value:=.agg #[.int .i64 x.1,.int .i64 x.2.1,.string x.2.2]
theorem sea_cells {w wr:World} {b off k:Nat} {x:Sea} (h:Below w.heap.size w wr) (hB:b < w.heap.size) (hc:∀ j u,(ES.cells x)[j]? = some u->w.cell? ⟨b,off + (k * ES.sz + j),none⟩ = some u) :
  wr.cell? ⟨b,off + k * 3,none⟩ = some (.int .i64 x.1)/\wr.cell? ⟨b,off + k * 3 + 1,none⟩ = some (.int .i64 x.2.1)/\wr.cell? ⟨b,off + k * 3 + 2,none⟩ = some (.string x.2.2):=by
 have a:=fun j u hj=>(h.cell (p:=⟨b,off + (k * ES.sz + j),none⟩) hB).trans (hc j u hj)
 exact ⟨a 0 _ rfl,a 1 _ rfl,a 2 _ rfl⟩
abbrev Over (w:World) (ao:Option Addr) (l:List Sea):Prop:=∀ i x,l[i]? = some x->∃ b off,ao = some ⟨b,off,none⟩/\True/\b < w.heap.size/\∀ k u,(ES.cells x)[k]? = some u->w.cell? ⟨b,off + (i * ES.sz + k),none⟩ = some u
theorem eql_sea (w:World) (x:Sea):(binOp .neq 116 (VS x) (VS x)).run Tryz.prog w = .ok (.bool false) w:=by
 obtain ⟨x0,x1,x2⟩:=x
 go_simp
set_option maxHeartbeats 1000000 in
theorem seats_same {S T:Nat->Prop} (u v:Value) (l:List Sea) (w:World) (hu:At ES S w u l) (hv:At ES T w v l) :
  Calls Tryz.prog 40 #[u,v] w fun e w'=>e = .returned (.bool true)/\Below w.heap.size w w':=by
 obtain ⟨ao,cap,rfl,hm,hx⟩:=hu.wide.open
 obtain ⟨bo,cap',rfl,-,hy⟩:=hv.wide.open
 clear hu hv
 unfold maxLen at hm
 obtain ⟨n,hn⟩:∃ n,l.length = n:=⟨_,rfl⟩
 rw [hn] at hm ⊢
 have HN:Hid _:=hn
 have HX:Hid _:=hx
 have HY:Hid _:=hy
 clear hn hx hy
 go_enter Tryz.func40,Tryz.ntmps40
 go_wp2
 go_loopw [8] (fun i wr=>∃ k:Nat,k<=n/\i = .int .i64 k/\Hid (Below w.heap.size w wr)) (fun i _=>n - (intOf i).toNat)
 case atStart=>exact ⟨0,Nat.zero_le _,rfl,Below.refl _ _⟩
 case round =>
  obtain ⟨k,hk,rfl,HB⟩:=hrel
  by_cases hlt:k < n
  ·obtain ⟨x,hxk⟩:∃ x,l[k]? = some x:=⟨_,List.getElem?_eq_getElem (by rw [HN.out];exact hlt)⟩
   obtain ⟨b,off,rfl,-,hB,hc⟩:=HX.out k x hxk
   obtain ⟨b',off',rfl,-,hB',hc'⟩:=HY.out k x hxk
   obtain ⟨c0,c1,c2⟩:=sea_cells HB.out hB hc
   obtain ⟨d0,d1,d2⟩:=sea_cells HB.out hB' hc'
   clear hc hc' hxk
   have hlt':(k:Int) < (n:Int):=by omega
   have hge:decide ((n:Int)<=(k:Int)) = false:=decide_eq_false (by omega)
   have heq:∀ w',(binOp .neq 116 (VS x) (VS x)).run Tryz.prog w' = .ok (.bool false) w':=fun w'=>eql_sea w' x
   have HB2:Hid (∀ q,Below w.heap.size w (wr.drewN q)):=fun _=>⟨HB.out.os,HB.out.tape,HB.out.output,HB.out.size,HB.out.block⟩
   go_wp2_with fail
   go_quiet (fail)
   go_wp2
   go_roundw
   case rel=>exact ⟨k + 1,by omega,by go_num,HB2.out _⟩
   case measure=>simp [intOf];omega
  ·obtain rfl:k = n:=by omega
   go_wp2
   go_ret
   exact ⟨rfl,HB.out⟩
end Es
theorem two_st (w:World) (x y:Obj):Below w.heap.size w ((w.alloc x).alloc y):=((Below.refl _ _).alloc (Nat.le_refl _) _).alloc (by simp) _
theorem eq_hand (no gen:Int) (w:World):(binOp .eql 28 (.agg #[.int .i64 no,.int .i64 gen]) (.agg #[.int .i64 no,.int .i64 gen])).run Tryz.prog w = .ok (.bool true) w:=by
 have t1:(no == no) = true:=beq_self_eq_true _
 have t2:(gen == gen) = true:=beq_self_eq_true _
 go_simp
theorem eq_attr (k l s t:Int) (w:World):(binOp .eql 37 (VA k l s t) (VA k l s t)).run Tryz.prog w = .ok (.bool true) w:=by
 have t1:(k == k) = true:=beq_self_eq_true _
 have t2:(l == l) = true:=beq_self_eq_true _
 have t3:(s == s) = true:=beq_self_eq_true _
 have t4:(t == t) = true:=beq_self_eq_true _
 go_simp
set_option maxHeartbeats 2000000 in
theorem reply_same {S U:Nat->Prop} (r:Nf.Rpl) (u v:Value) (w:World) (hu:At EE S w u r.ents) (hv:At EE U w v r.ents):Calls Tryz.prog 16 #[VR r u,VR r v] w fun e w'=>e = .returned (.bool true)/\Below w.heap.size w w':=by
 obtain ⟨e,no,gen,k,l,s,t,data,ents,n⟩:=r
 have HU:Hid (At EE S w u ents):=hu
 have HV:Hid (At EE U w v ents):=hv
 obtain ⟨ao,cap,rfl,-,-⟩:=HU.out.open
 obtain ⟨bo,cap',rfl,-,-⟩:=HV.out.open
 obtain ⟨z,hz⟩:∃ z,ents.length = z:=⟨_,rfl⟩
 rw [hz] at HU HV ⊢
 have t0:(e == e) = true:=beq_self_eq_true _
 have t1:∀ w',(binOp .eql 28 (.agg #[.int .i64 no,.int .i64 gen]) (.agg #[.int .i64 no,.int .i64 gen])).run Tryz.prog w' = .ok (.bool true) w':=eq_hand no gen
 have t2:∀ w',(binOp .eql 37 (VA k l s t) (VA k l s t)).run Tryz.prog w' = .ok (.bool true) w':=eq_attr k l s t
 have t3:(data.toList == data.toList) = true:=beq_self_eq_true _
 have t4:(n == n) = true:=beq_self_eq_true _
 have HW:Hid _:=two_st w
 clear hu hv hz
 go_enter Tryz.func16,Tryz.ntmps16
 go_wp2_with fail
 refine (entries_same _ _ ents _ (HU.out.up (HW.out _ _)) (HV.out.up (HW.out _ _))).mono ?_
 rintro e' w1 ⟨rfl,hb1⟩
 go_wp2
 go_ret
 exact ⟨rfl,(HW.out _ _).trans (hb1.mono (HW.out _ _).size)⟩
set_option maxHeartbeats 4000000 in
theorem state_same {S T S2 T2 S3 T3:Nat->Prop} (vi vo vs ui uo us:Value) (dn:Int) (L M:List Rw) (O:List Os.Opn) (Z:List Es.Sea) (w:World) (h1:TabAt S w vi L) (h2:TabAt T w ui M) (hp:pl L = pl M) (h3:At Os.EO S2 w vo O) (h4:At Os.EO T2 w uo O) (h5:At Es.ES S3 w vs Z) (h6:At Es.ES T3 w us Z) :
  Calls Tryz.prog 15 #[VSt vi vo vs dn,VSt ui uo us dn] w fun e w'=>e = .returned (.bool true)/\Below w.heap.size w w':=by
 have H1:Hid (TabAt S w vi L):=h1
 have H2:Hid (TabAt T w ui M):=h2
 have H3:Hid (At Os.EO S2 w vo O):=h3
 have H4:Hid (At Os.EO T2 w uo O):=h4
 have H5:Hid (At Es.ES S3 w vs Z):=h5
 have H6:Hid (At Es.ES T3 w us Z):=h6
 have HP:Hid (pl L = pl M):=hp
 obtain ⟨a1,b1,e1,-,-⟩:=h1.open
 obtain ⟨a2,b2,e2,-,-⟩:=h2.open
 obtain ⟨a3,b3,e3,-,-⟩:=h3.open
 obtain ⟨a4,b4,e4,-,-⟩:=h4.open
 obtain ⟨a5,b5,e5,-,-⟩:=h5.open
 obtain ⟨a6,b6,e6,-,-⟩:=h6.open
 obtain ⟨n1,hn1⟩:∃ n,L.length = n:=⟨_,rfl⟩
 obtain ⟨n2,hn2⟩:∃ n,M.length = n:=⟨_,rfl⟩
 obtain ⟨n3,hn3⟩:∃ n,O.length = n:=⟨_,rfl⟩
 obtain ⟨n4,hn4⟩:∃ n,Z.length = n:=⟨_,rfl⟩
 rw [hn1] at e1
 rw [hn2] at e2
 rw [hn3] at e3 e4
 rw [hn4] at e5 e6
 subst e1 e2 e3 e4 e5 e6
 have t0:(dn == dn) = true:=beq_self_eq_true _
 have HW:Hid (∀ x y:Obj,Below w.heap.size w ((w.alloc x).alloc y)):=two_st w
 obtain ⟨W,hW⟩:∃ W,W = (w.alloc (BSt (.slice a1 n1 b1) (.slice a3 n3 b3) (.slice a5 n4 b5) dn)).alloc (BSt (.slice a2 n2 b2) (.slice a4 n3 b4) (.slice a6 n4 b6) dn):=⟨_,rfl⟩
 have HB:Hid (Below w.heap.size w W):=by show Below _ _ _;rw [hW];exact HW.out _ _
 have HX:Hid (W.heap[w.heap.size]? = some (BSt (.slice a1 n1 b1) (.slice a3 n3 b3) (.slice a5 n4 b5) dn)):=by show _ = _;rw [hW];exact (Below.heap_alloc _ _ _ (by simp)).trans (heap_alloc_new _ _)
 have HY:Hid (W.heap[w.heap.size + 1]? = some (BSt (.slice a2 n2 b2) (.slice a4 n3 b4) (.slice a6 n4 b6) dn)):=by show _ = _;rw [hW];have h:=heap_alloc_new (w.alloc (BSt (.slice a1 n1 b1) (.slice a3 n3 b3) (.slice a5 n4 b5) dn)) (BSt (.slice a2 n2 b2) (.slice a4 n3 b4) (.slice a6 n4 b6) dn);simpa using h
 clear h1 h2 h3 h4 h5 h6 hn1 hn2 hn3 hn4 hp
 go_enter Tryz.func15,Tryz.ntmps15
 go_wp2_with fail
 rw [← hW]
 clear hW
 refine (inodes_same _ _ L M _ (H1.out.up HB.out) (H2.out.up HB.out) HP.out).mono ?_
 rintro e' w1 ⟨rfl,hb1⟩
 have HB1:Hid (Below w.heap.size w w1):=HB.out.trans (hb1.mono HB.out.size)
 have HX1:Hid (w1.heap[w.heap.size]? = some (BSt (.slice a1 n1 b1) (.slice a3 n3 b3) (.slice a5 n4 b5) dn)):=(hb1.block _ (qL HX.out)).trans HX.out
 have HY1:Hid (w1.heap[w.heap.size + 1]? = some (BSt (.slice a2 n2 b2) (.slice a4 n3 b4) (.slice a6 n4 b6) dn)):=(hb1.block _ (qL HY.out)).trans HY.out
 obtain ⟨x0,x1,x2,x3⟩:=st_of HX1.out
 obtain ⟨y0,y1,y2,y3⟩:=st_of HY1.out
 clear hb1
 go_wp2_with fail
 refine (Os.opens_same _ _ O _ (H3.out.up HB1.out) (H4.out.up HB1.out)).mono ?_
 rintro e' w2 ⟨rfl,hb2⟩
 have HB2:Hid (Below w.heap.size w w2):=HB1.out.trans (hb2.mono HB1.out.size)
 have HX2:Hid (w2.heap[w.heap.size]? = some (BSt (.slice a1 n1 b1) (.slice a3 n3 b3) (.slice a5 n4 b5) dn)):=(hb2.block _ (qL HX1.out)).trans HX1.out
 have HY2:Hid (w2.heap[w.heap.size + 1]? = some (BSt (.slice a2 n2 b2) (.slice a4 n3 b4) (.slice a6 n4 b6) dn)):=(hb2.block _ (qL HY1.out)).trans HY1.out
 clear hb2 x0 x1 x2 x3 y0 y1 y2 y3
 obtain ⟨x0,x1,x2,x3⟩:=st_of HX2.out
 obtain ⟨y0,y1,y2,y3⟩:=st_of HY2.out
 go_wp2_with fail
 refine (Es.seats_same _ _ Z _ (H5.out.up HB2.out) (H6.out.up HB2.out)).mono ?_
 rintro e' w3 ⟨rfl,hb3⟩
 go_wp2
 go_ret
 exact ⟨rfl,HB2.out.trans (hb3.mono HB2.out.size)⟩
end Go.Proofs.YtneojimodomohaaGreat
namespace Go.Proofs.YtneojimodomohaaGreat
set_option maxRecDepth 100000
namespace Law
open Go.ChangeShapes Go.WideShapes Go.ChangeAt Go.RowKit
theorem below_trodAll {H:Type} {enc:TypeId × Value->H} {P:Program} {W W':World} (hl:laidOutB P = true) (hb:Below W.heap.size W W') :
    ∀ (ts : List TypeId) (vs : List Value) (ds : List (DataW H)) (p : List MemPlace), (∀ t ∈ ts, P.readableRec t = true ∧ t < P.types.size) → (∀ x ∈ p, x.block < W.heap.size) →
      DataW.TrodAll enc P W 0 (fun _=>true) true ts vs ds p->DataW.TrodAll enc P W' 0 (fun b=>decide (b < W.heap.size)) true ts vs ds p
  | [],[],[],_,_,_,h=>h
  | t :: ts, v :: vs, d :: ds, p, hts, hlt, h => by
    obtain ⟨p0,q,h0,hq,rfl⟩:=h
    have ht:=hts t (by simp)
    exact ⟨p0,q,Below.trod hl ht.1 ht.2 h0 hb (fun x hx=>hlt x (by simp [hx])),below_trodAll hl hb ts vs ds q (fun u hu=>hts u (by simp [hu])) (fun x hx=>hlt x (by simp [hx])) hq,rfl⟩
theorem post {H:Type} {enc:TypeId × Value->H} {P:Program} {f:Func} {s:ChangeSpec} {tb:TypeId} {W W':World} {args:Array Value} {ds gs:List (DataW H)} {before:List MemPlace}
    (hl:laidOutB P = true) (hts:f.params.toList.all (fun t=>P.readableRec t && decide (t < P.types.size)) = true) (hrt:f.resultTypes = #[tb]) (hub:P.underlying tb = some .bool)
    (hW:DataW.Whole enc P f.params.toList s.vars false W args.toList ds gs before) (hv:s.vars = [])
    (hspec:s.fn H (ds ++ gs) = { results:=[.lit (.bool true)],args:=ds }) (hb:Below W.heap.size W W') :
    s.post enc P f false true false false W args (.bool true) W':=by
  have hW':=hW
  obtain ⟨p,q,hA,hV,rfl,hfz,hnd⟩:=hW
  rw [hv] at hV
  obtain ⟨rfl,rfl⟩:=trodVars_none hV
  have hlt:∀ x∈p,x.block < W.heap.size:=fun x hx=>by simpa using hW'.lt x (by simpa using hx)
  refine ⟨ds,[],p ++ [],[],p,[],hW',?_,?_,?_,hb.frame _,fun h=>by cases h⟩
  · rw [hspec, hrt]
    exact trodAll_mk1 (shut_bool hub _)
  · rw [hspec]
    refine below_trodAll hl hb _ _ _ _ (fun t ht=>?_) hlt hA
    have:=List.all_eq_true.1 hts t ht
    simpa using this
  · rw [hspec, hv]
    rfl
end Law
end Go.Proofs.YtneojimodomohaaGreat
namespace Go.Proofs.YtneojimodomohaaGreat
open Go.ChangeShapes Go.WideShapes Go.ChangeAt Go.RowKit Go.Deep It
set_option maxRecDepth 100000
theorem slice_of {H:Type} {enc:TypeId × Value->H} {P:Program} {w:World} {t e:TypeId} {fuel:Nat} {v:Value} {dx:DataW H × List MemPlace} (ht:P.underlying t = some (.slice e)) (hf:DataW.trod enc P w 0 (fun _=>true) true fuel t [v] = some dx):∃ a len cap,v = .slice a len cap:=by
  rcases open_slice ht hf with ⟨hcs,hx⟩ | ⟨a,len,cap,m,n,D,Pl,hcs,-⟩
  · simp at hcs
    exact ⟨_,_,_,hcs⟩
  · simp at hcs
    exact ⟨_,_,_,hcs⟩
theorem open_opens {H : Type} {enc : TypeId × Value → H} {w : World} {fuel : Nat} {v : Value} {dx : DataW H × List MemPlace} (hf : DataW.trod enc Tryz.prog w 0 (fun _ => true) true fuel 23 [v] = some dx) : ∃ l, AtW Os.EO w v l := by
  have:Inhabited Os.Opn:=⟨(0,0,0,0)⟩
  obtain ⟨l,h1,-⟩:=open_row Os.EO Tryz.underlying23 (by kernel_rfl) (by decide) (Q:=fun _ _=>True) (fun n cs d pl hl h=>by
    obtain ⟨xs,m,_,_,_,hxl,hg⟩:=DataW.trod_struct Tryz.underlying77 h
    match cs,hl with
    | [c0, c1, c2, c3], _ =>
      have g0:=hg 0 _ rfl
      have g1:=hg 1 _ rfl
      have g2:=hg 2 _ rfl
      have hx3:xs.length = 3:=by rw [hxl];rfl
      match xs,hx3 with
      | [y0, y1, y2], _ =>
        simp only [List.getElem_toArray,List.getElem_cons_zero,List.getElem_cons_succ] at g0 g1 g2
        simp only [show Tryz.prog.cellsOf 3 = 1 from by kernel_rfl,show Tryz.prog.cellsOf 28 = 2 from by kernel_rfl] at g0 g1 g2
        simp at g0 g1 g2
        obtain ⟨z0,z1,m2,_,_,k0,k1⟩:=trod_struct2 Tryz.underlying28 g2
        simp only [show Tryz.prog.cellsOf 3 = 1 from by kernel_rfl] at k0 k1
        simp at k0 k1
        obtain ⟨s,e0,_,_⟩:=DataW.trod_int Tryz.underlying3 g0
        obtain ⟨a,e1,_,_⟩:=DataW.trod_int Tryz.underlying3 g1
        obtain ⟨b,e2,_,_⟩:=DataW.trod_int Tryz.underlying3 k0
        obtain ⟨c,e3,_,_⟩:=DataW.trod_int Tryz.underlying3 k1
        simp only [List.cons.injEq,and_true] at e0 e1 e2 e3
        subst e0
        subst e1
        subst e2
        subst e3
        exact ⟨(s,a,b,c),rfl,trivial⟩) hf
  exact ⟨l,h1⟩
theorem open_seats {H : Type} {enc : TypeId × Value → H} {w : World} {fuel : Nat} {v : Value} {dx : DataW H × List MemPlace} (hf : DataW.trod enc Tryz.prog w 0 (fun _ => true) true fuel 24 [v] = some dx) : ∃ l, AtW Es.ES w v l := by
  have:Inhabited Es.Sea:=⟨(0,0,.empty)⟩
  obtain ⟨l,h1,-⟩:=open_row Es.ES Tryz.underlying24 (by kernel_rfl) (by decide) (Q:=fun _ _=>True) (fun n cs d pl hl h=>by
    obtain ⟨xs,m,_,_,_,hxl,hg⟩:=DataW.trod_struct Tryz.underlying116 h
    match cs,hl with
    | [c0, c1, c2], _ =>
      have g0:=hg 0 _ rfl
      have g1:=hg 1 _ rfl
      have g2:=hg 2 _ rfl
      have hx3:xs.length = 3:=by rw [hxl];rfl
      match xs,hx3 with
      | [y0, y1, y2], _ =>
        simp only [List.getElem_toArray,List.getElem_cons_zero,List.getElem_cons_succ] at g0 g1 g2
        simp only [show Tryz.prog.cellsOf 3 = 1 from by kernel_rfl,show Tryz.prog.cellsOf 9 = 1 from by kernel_rfl] at g0 g1 g2
        simp at g0 g1 g2
        obtain ⟨s,e0,_,_⟩:=DataW.trod_int Tryz.underlying3 g0
        obtain ⟨a,e1,_,_⟩:=DataW.trod_int Tryz.underlying3 g1
        obtain ⟨b,e2,_,_⟩:=DataW.trod_string Tryz.underlying9 g2
        simp only [List.cons.injEq,and_true] at e0 e1 e2
        subst e0
        subst e1
        subst e2
        exact ⟨(s,a,b),rfl,trivial⟩) hf
  exact ⟨l,h1⟩
theorem open_state {H : Type} {enc : TypeId × Value → H} {w : World} {r : Reach} {b0 : Nat} {v : Value} {d : DataW H} {p : List MemPlace} (hv : Value.okWide Tryz.prog w r b0 26 v) (h : DataW.Trod enc Tryz.prog w 0 (fun _ => true) true 26 v d p) (hwt : ∀ n ∈ d.weights Tryz.prog 26, n ≤ reachBytes) :
    ∃ (vi vo:Value) (sp:Option Addr) (sn sc:Nat) (dn:Int) (L:List Rw) (O:List Os.Opn) (Z:List Es.Sea),v = VSt vi vo (.slice sp sn sc) dn/\TabW w vi L/\Sp.okN L/\AtW Os.EO w vo O/\AtW Es.ES w (.slice sp sn sc) Z:=by
  obtain ⟨cs,rfl,hsz⟩:=okWide_struct Tryz.underlying26 hv
  have hsz':cs.size = 4:=hsz.trans (by kernel_rfl)
  obtain ⟨fuel,hf⟩:=h
  obtain ⟨xs,m,_,hxy,_,hxl,hg⟩:=DataW.trod_struct Tryz.underlying26 hf
  have hl:cs.toList.length = 4:=by simpa using hsz'
  obtain ⟨l⟩:=cs
  simp only at hl
  match l,hl with
  | [c0, c1, c2, c3], _ =>
    have hx4:xs.length = 4:=by rw [hxl];rfl
    have g0:=hg 0 _ rfl
    have g1:=hg 1 _ rfl
    have g2:=hg 2 _ rfl
    have g3:=hg 3 _ rfl
    match xs,hx4 with
    | [y0, y1, y2, y3], _ =>
      simp only [List.getElem_toArray,List.getElem_cons_zero,List.getElem_cons_succ] at g0 g1 g2 g3
      simp only [Value.cells,show Tryz.prog.cellsOf 3 = 1 from by kernel_rfl,show Tryz.prog.cellsOf 22 = 1 from by kernel_rfl,show Tryz.prog.cellsOf 23 = 1 from by kernel_rfl,show Tryz.prog.cellsOf 24 = 1 from by kernel_rfl] at g0 g1 g2 g3
      simp at g0 g1 g2 g3
      obtain ⟨dn,e3,_,_⟩:=DataW.trod_int Tryz.underlying3 g3
      simp only [List.cons.injEq,and_true] at e3
      subst e3
      obtain ⟨O,hO⟩:=open_opens g1
      obtain ⟨Z,hZ⟩:=open_seats g2
      obtain ⟨sp,sc,hz,-,-⟩:=hZ.open
      subst hz
      obtain ⟨a,len,cap,hs⟩:=slice_of Tryz.underlying22 g0
      subst hs
      have hd:d = .agg [y0.1,y1.1,y2.1,y3.1]:=(Prod.mk.inj hxy).1
      obtain ⟨L,hL,hk⟩:=sopen_tab (w:=w) (enc:=enc) (d:=y0.1) (p:=y0.2) ⟨a,len,cap,rfl⟩ ⟨_,by simpa [Value.cells] using g0⟩ (fun n hn=>hwt n (by
        rw [hd]
        simp only [DataW.weights,Tryz.underlying26]
        exact DataW.weights_mem_each (j:=0) (t:=22) (d:=y0.1) rfl rfl n hn))
      exact ⟨_,_,_,_,_,dn,L,O,Z,rfl,hL,hk,hO,hZ⟩
abbrev Doc:=Int × Cal
def cDo (x:Doc):List Value:=[.int .i64 x.1,.int .i64 x.2.k,.int .i64 x.2.no,.int .i64 x.2.gen,.int .i64 x.2.no2,.int .i64 x.2.gen2,.string x.2.nm,.string x.2.nm2,.int .i64 x.2.pl,.int .i64 x.2.n,.string x.2.data]
def fits (c:Cal):Prop:=c.nm.size<=maxLen/\c.nm2.size<=maxLen/\c.data.size<=maxLen
theorem open_c10 {H:Type} {enc:TypeId × Value->H} {w:World} {n:Nat} {cs:List Value} {d:DataW H} {pl:List MemPlace} (hl:cs.length = 10) (h:DataW.trod enc Tryz.prog w 0 (fun _=>true) true n 30 cs = some (d,pl)):∃ c:Cal,cs = (cDo (0,c)).tail/\fits c:=by
  obtain ⟨xs,m,_,_,_,hxl,hg⟩:=DataW.trod_struct Tryz.underlying30 h
  match cs,hl with
  | [c0, c1, c2, c3, c4, c5, c6, c7, c8, c9], _ =>
    have hx8:xs.length = 8:=by rw [hxl];rfl
    have g0:=hg 0 _ rfl
    have g1:=hg 1 _ rfl
    have g2:=hg 2 _ rfl
    have g3:=hg 3 _ rfl
    have g4:=hg 4 _ rfl
    have g5:=hg 5 _ rfl
    have g6:=hg 6 _ rfl
    have g7:=hg 7 _ rfl
    match xs,hx8 with
    | [y0, y1, y2, y3, y4, y5, y6, y7], _ =>
      simp only [List.getElem_toArray,List.getElem_cons_zero,List.getElem_cons_succ] at g0 g1 g2 g3 g4 g5 g6 g7
      simp only [show Tryz.prog.cellsOf 9 = 1 from by kernel_rfl,show Tryz.prog.cellsOf 3 = 1 from by kernel_rfl,show Tryz.prog.cellsOf 28 = 2 from by kernel_rfl] at g0 g1 g2 g3 g4 g5 g6 g7
      simp at g0 g1 g2 g3 g4 g5 g6 g7
      obtain ⟨z0,z1,m2,_,_,k0,k1⟩:=trod_struct2 Tryz.underlying28 g1
      obtain ⟨u0,u1,m3,_,_,j0,j1⟩:=trod_struct2 Tryz.underlying28 g2
      simp only [show Tryz.prog.cellsOf 3 = 1 from by kernel_rfl] at k0 k1 j0 j1
      simp at k0 k1 j0 j1
      obtain ⟨k,e0,_,_⟩:=DataW.trod_int Tryz.underlying3 g0
      obtain ⟨no,e1,_,_⟩:=DataW.trod_int Tryz.underlying3 k0
      obtain ⟨gen,e2,_,_⟩:=DataW.trod_int Tryz.underlying3 k1
      obtain ⟨no2,e3,_,_⟩:=DataW.trod_int Tryz.underlying3 j0
      obtain ⟨gen2,e4,_,_⟩:=DataW.trod_int Tryz.underlying3 j1
      obtain ⟨nm,e5,_,s5⟩:=DataW.trod_string Tryz.underlying9 g3
      obtain ⟨nm2,e6,_,s6⟩:=DataW.trod_string Tryz.underlying9 g4
      obtain ⟨pl,e7,_,_⟩:=DataW.trod_int Tryz.underlying3 g5
      obtain ⟨n,e8,_,_⟩:=DataW.trod_int Tryz.underlying3 g6
      obtain ⟨data,e9,_,s9⟩:=DataW.trod_string Tryz.underlying9 g7
      simp only [List.cons.injEq,and_true] at e0 e1 e2 e3 e4 e5 e6 e7 e8 e9
      subst e0
      subst e1
      subst e2
      subst e3
      subst e4
      subst e5
      subst e6
      subst e7
      subst e8
      subst e9
      exact ⟨⟨k,no,gen,no2,gen2,nm,nm2,pl,n,data⟩,rfl,s5,s6,s9⟩
theorem open_c11 {H:Type} {enc:TypeId × Value->H} {w:World} {n:Nat} {cs:List Value} {d:DataW H} {pl:List MemPlace} (hl:cs.length = 11) (h:DataW.trod enc Tryz.prog w 0 (fun _=>true) true n 32 cs = some (d,pl)):∃ x:Doc,cs = cDo x/\fits x.2:=by
  obtain ⟨y0,y1,m,_,_,g0,g1⟩:=trod_struct2 Tryz.underlying32 h
  match cs,hl with
  | [c0, c1, c2, c3, c4, c5, c6, c7, c8, c9, c10], _ =>
    rw [show Tryz.prog.cellsOf 3 = 1 from by kernel_rfl] at g0
    rw [show Tryz.prog.cellsOf 30 = 10 from by kernel_rfl] at g1
    simp at g0 g1
    obtain ⟨cl,e0,_,_⟩:=DataW.trod_int Tryz.underlying3 g0
    simp only [List.cons.injEq,and_true] at e0
    subst e0
    obtain ⟨c,e1,hf⟩:=open_c10 rfl g1
    refine ⟨(cl,c),?_,hf⟩
    rw [e1]
    rfl
abbrev VDo (x:Doc):Value:=.agg (cDo x).toArray
theorem open_do {H:Type} {enc:TypeId × Value->H} {w:World} {r:Reach} {b0:Nat} {v:Value} {d:DataW H} {p:List MemPlace} (hv:Value.okWide Tryz.prog w r b0 32 v) (h:DataW.Trod enc Tryz.prog w 0 (fun _=>true) true 32 v d p):∃ x:Doc,v = VDo x/\fits x.2:=by
  obtain ⟨cs,rfl,hsz⟩:=okWide_struct Tryz.underlying32 hv
  obtain ⟨fuel,hf⟩:=h
  have h11:cs.toList.length = 11:=by rw [Array.length_toList,hsz];kernel_rfl
  obtain ⟨x,hx,hfit⟩:=open_c11 h11 (by simpa [Value.cells] using hf)
  refine ⟨x,?_,hfit⟩
  show Value.agg cs = .agg (cDo x).toArray
  rw [← hx]
end Go.Proofs.YtneojimodomohaaGreat
namespace Go.Proofs.YtneojimodomohaaGreat
open It
set_option maxRecDepth 100000
namespace Nf
theorem oname {c:UInt8} (h:c≠46/\c≠47/\c≠0):Nm.ok ⟨#[c]⟩:=by
 refine ⟨by simp [ByteArray.size],by simp [ByteArray.size],fun e=>?_,fun e=>?_,?_⟩
 ·have:#[c] = #[46]:=congrArg ByteArray.data e
  simp at this
  exact h.1 this
 ·have:#[c] = #[46,46]:=congrArg ByteArray.data e
  simp at this
 ·intro i hi _
  have h0:i = 0:=by
   have:i < 1:=hi
   omega
  subst h0
  show c.toNat≠47/\c.toNat≠0
  exact ⟨fun e=>h.2.1 (UInt8.toNat_inj.1 e),fun e=>h.2.2 (UInt8.toNat_inj.1 e)⟩
theorem dir_none {nx:Int} (h:0<=nx/\nx<=1099511627776):Fo.Right [] nx:=⟨h,fun i hi=>by simp at hi,by simp [Fo.apart]⟩
theorem dir_one {s:ByteArray} {no:Int} (hs:Nm.ok s) (hn:0<=no/\no<=23):Fo.Right [(s,1,no,1)] 1:=by
 refine ⟨by omega,fun i hi=>?_,by simp [Fo.apart]⟩
 have:i = 0:=by simp at hi;exact hi
 subst this
 intro x hx
 simp at hx
 subst hx
 exact ⟨hs,by simp [Fo.lastC],hn,by show (1:Int)<=1;decide,by show (1:Int)<=1099511627776;decide⟩
theorem st_fine {L:List Ino} {st:Int} (h:Sp.isSp L = true) (ht:Sp.top L<=st/\st<=1099511627776):Sp.stErr (Sp.chk Sp.isSp) L st = 0:=by
 unfold Sp.stErr Sp.chk
 rw [if_pos h,if_pos rfl,if_pos ht]
theorem free_name {L:List Ino} {a b nx:Int} {s:ByteArray} {es:List Ent} (hd:Sp.dirErr L a b = 0) (he:Sp.dirEnts L a b = es) (hn:Sp.dirNext L a b = nx) (hr:Fo.Right es nx) (hs:Nm.ok s) (ha:Fo.at' (Fo.called s) es = -1):Sp.nameErr L a b s = 0/\∀ no gen,Ho no gen->nx≠1099511627776->Fo.addErr es nx s no gen = 0:=by
 have hk:Fo.ask es nx s = 0:=by rw [Fo.ask_right (Fo.err_ok hr),Nm.err_ok hs]
 have hf:=(Fo.findErr_miss hk ha).1
 have hl:Sp.lookErr L a b s = 402:=by unfold Sp.lookErr;rw [if_pos hd,he,hn,hf]
 refine ⟨by unfold Sp.nameErr;rw [hl];rfl,fun no gen ho hm=>Fo.add_ok hk ho ha hm⟩
theorem hit_name {L:List Ino} {a b nx:Int} {s:ByteArray} {es:List Ent} {k:Nat} {x:Ent} (hd:Sp.dirErr L a b = 0) (he:Sp.dirEnts L a b = es) (hn:Sp.dirNext L a b = nx) (hr:Fo.Right es nx) (hs:Nm.ok s) (ha:Fo.at' (Fo.called s) es = k) (hx:es[k]? = some x):Sp.lookErr L a b s = 0/\Sp.lookH L a b s = x.2.2/\Fo.plc es nx s = k:=by
 have hk:Fo.ask es nx s = 0:=by rw [Fo.ask_right (Fo.err_ok hr),Nm.err_ok hs]
 have hf:Fo.findErr es nx s = 0:=by unfold Fo.findErr;rw [if_pos hk,if_neg (by rw [ha];omega)]
 have hp:Fo.plc es nx s = k:=by unfold Fo.plc;rw [if_pos hf,ha]
 refine ⟨by unfold Sp.lookErr;rw [if_pos hd,he,hn,hf],?_,hp⟩
 unfold Sp.lookH
 rw [if_pos hd,he,hn,Fo.found_hit hf hp hx]
theorem at_first {s t:ByteArray} {c no g:Int} (h:s = t):Fo.at' (Fo.called s) [(t,c,no,g)] = (0:Nat):=Fo.at_hit (x:=(t,c,no,g)) rfl (by subst h;simp [Fo.called]) (fun j y hj=>by omega)
theorem right_mk {L:List Ino} {O:List Os.Opn} {dn:Int} (h:Sp.isSp L = true) (h2:(Os.Op.right 0 O && (filesOk L O && (decide (allBytes L<=8192) && doneOk L dn))) = true):right L O dn = true:=by
 unfold right
 rw [h,h2]
 rfl
theorem ref_fine {L:List Ino} {O:List Os.Opn} {dn cl:Int} (h:right L O dn = true) (hd:dn≠1099511627776) (hc:0<=cl/\cl<=1099511627776):refE L O dn cl = 0:=by
 unfold refE
 rw [if_pos h,if_neg hd,if_pos hc]
theorem do_fine {L:List Ino} {O:List Os.Opn} {dn cl:Int} {c:Cal} (h:refE L O dn cl = 0) (hc:Ks.Ak.right c = true):doR L O dn cl c = rep L O (dn + 1) cl c/\doT L O dn cl c = tab L O (dn + 1) cl c/\doO L O dn cl c = ops L O cl c/\doD L O dn cl = dn + 1:=by
 unfold doR doT doO doD
 rw [if_pos h,if_pos h,if_pos h,if_pos h,if_pos hc,if_pos hc,if_pos hc]
 exact ⟨rfl,rfl,rfl,rfl⟩
abbrev xA:ByteArray:=⟨#[97]⟩
abbrev xX:ByteArray:=⟨#[120]⟩
abbrev e0:ByteArray:=⟨#[]⟩
theorem okA:Nm.ok xA:=oname (by decide)
def F1:List Ino:=[⟨1,2,1,1,1,[],[(xA,1,1,1)],1⟩,⟨1,1,1,0,1,[],[],0⟩]
def F3:List Ino:=[⟨1,2,1,0,3,[],[],1⟩,⟨1,1,0,0,3,[],[],0⟩]
def F4:List Ino:=[⟨1,2,1,0,3,[],[],1⟩,⟨1,1,0,1,4,[(0,xX)],[],0⟩]
def F5:List Ino:=[⟨1,2,1,0,3,[],[],1⟩,⟨1,0,0,0,0,[],[],0⟩]
abbrev O1:List Os.Opn:=[(0,5,1,1)]
abbrev c1:Cal:=⟨3,0,1,0,0,xA,e0,0,0,e0⟩
abbrev c2:Cal:=⟨13,1,1,0,0,e0,e0,0,0,e0⟩
abbrev c3:Cal:=⟨9,0,1,0,0,xA,e0,0,0,e0⟩
abbrev c4:Cal:=⟨6,1,1,0,0,e0,e0,0,0,xX⟩
abbrev c5:Cal:=⟨14,0,0,0,0,e0,e0,0,0,e0⟩
abbrev c6:Cal:=⟨5,1,1,0,0,e0,e0,0,1,e0⟩
theorem folds_new:Sp.folds new:=fun x hx=>by
 simp [new,fresh] at hx
 subst hx
 exact fun _=>⟨dir_none (by decide),rfl⟩
theorem isSp_new:Sp.isSp new = true:=Sp.isSp_iff.2 ⟨by decide,folds_new,by decide,by decide⟩
theorem folds_F1:Sp.folds F1:=fun x hx=>by
 simp [F1] at hx
 rcases hx with rfl | rfl
 ·exact fun _=>⟨dir_one okA (by decide),rfl⟩
 ·intro h
  cases h
theorem isSp_F1:Sp.isSp F1 = true:=Sp.isSp_iff.2 ⟨by decide,folds_F1,by decide,by decide⟩
theorem folds_F3:Sp.folds F3:=fun x hx=>by
 simp [F3] at hx
 rcases hx with rfl | rfl
 ·exact fun _=>⟨dir_none (by decide),rfl⟩
 ·intro h
  cases h
theorem isSp_F3:Sp.isSp F3 = true:=Sp.isSp_iff.2 ⟨by decide,folds_F3,by decide,by decide⟩
theorem folds_F4:Sp.folds F4:=fun x hx=>by
 simp [F4] at hx
 rcases hx with rfl | rfl
 ·exact fun _=>⟨dir_none (by decide),rfl⟩
 ·intro h
  cases h
theorem isSp_F4:Sp.isSp F4 = true:=Sp.isSp_iff.2 ⟨by decide,folds_F4,by decide,by decide⟩
theorem folds_F5:Sp.folds F5:=fun x hx=>by
 simp [F5] at hx
 rcases hx with rfl | rfl
 ·exact fun _=>⟨dir_none (by decide),rfl⟩
 ·intro h
  cases h
theorem isSp_F5:Sp.isSp F5 = true:=Sp.isSp_iff.2 ⟨by decide,folds_F5,by decide,by decide⟩
theorem right_new:right new [] 0 = true:=right_mk isSp_new (by decide +kernel)
theorem right_1:right F1 [] 1 = true:=right_mk isSp_F1 (by decide +kernel)
theorem right_2:right F1 O1 2 = true:=right_mk isSp_F1 (by decide +kernel)
theorem right_3:right F3 O1 3 = true:=right_mk isSp_F3 (by decide +kernel)
theorem right_4:right F4 O1 4 = true:=right_mk isSp_F4 (by decide +kernel)
theorem right_5:right F5 [] 5 = true:=right_mk isSp_F5 (by decide +kernel)
theorem mk_1:Sp.mkE (Sp.chk Sp.isSp) new 0 1 xA 1 1 = 0/\Sp.mkT (Sp.chk Sp.isSp) new 0 1 xA 1 1 = F1/\Sp.mkH (Sp.chk Sp.isSp) new 0 1 xA 1 1 = (1,1):=by
 obtain ⟨h1,h2⟩:=free_name (L:=new) (a:=0) (b:=1) (s:=xA) (es:=[]) (nx:=0) (by decide) (by decide) (by decide) (dir_none (by decide)) okA (by decide)
 have h3:Sp.makeErr (Sp.chk Sp.isSp) new 0 1 xA 1 1 = 0:=by unfold Sp.makeErr;rw [if_pos (st_fine isSp_new (by decide)),if_pos (by decide),h1]
 have h4:It.makeErr new 1 1 = 0:=by decide
 have h5:makeH new 1 1 = (1,1):=by decide
 have hE:Sp.mkE (Sp.chk Sp.isSp) new 0 1 xA 1 1 = 0:=by
  unfold Sp.mkE
  rw [if_pos h3,if_pos h4,h5,show Sp.dirEnts new 0 1 = [] from by decide,show Sp.dirNext new 0 1 = 0 from by decide]
  exact h2 1 1 (by decide) (by decide)
 refine ⟨hE,?_,by unfold Sp.mkH;rw [if_pos hE,h5]⟩
 unfold Sp.mkT
 rw [if_pos hE,h5]
 rfl
theorem step1:doR new [] 0 5 c1 = ⟨0,1,1,1,1,0,1,e0,[],0⟩/\doT new [] 0 5 c1 = F1/\doO new [] 0 5 c1 = []/\doD new [] 0 5 = 1:=by
 obtain ⟨h1,h2,h3,h4⟩:=do_fine (c:=c1) (ref_fine (cl:=5) right_new (by decide) (by decide)) (by decide)
 obtain ⟨m1,m2,m3⟩:=mk_1
 refine ⟨?_,?_,?_,h4⟩
 ·rw [h1,show rep new [] (0 + 1) 5 c1 = makeP new c1 1 1 from by simp [rep]]
  unfold makeP told
  rw [m1,m2,m3,if_pos rfl]
  rfl
 ·rw [h2,show tab new [] (0 + 1) 5 c1 = makeT new c1 1 1 from by simp [tab]]
  unfold makeT
  rw [m1,m2,if_pos rfl]
 ·rw [h3]
  simp [ops]
theorem step2:doR F1 [] 1 5 c2 = ⟨0,0,0,0,0,0,0,e0,[],0⟩/\doT F1 [] 1 5 c2 = F1/\doO F1 [] 1 5 c2 = O1/\doD F1 [] 1 5 = 2:=by
 obtain ⟨h1,h2,h3,h4⟩:=do_fine (c:=c2) (ref_fine (cl:=5) right_1 (by decide) (by decide)) (by decide)
 have ho:opE F1 [] 5 c2 = 0:=by decide
 refine ⟨?_,?_,?_,h4⟩
 ·rw [h1,show rep F1 [] (1 + 1) 5 c2 = openP F1 [] 5 c2 from by simp [rep]]
  unfold openP opN
  rw [ho,if_pos rfl]
  rfl
 ·rw [h2]
  simp [tab]
 ·rw [h3,show ops F1 [] 5 c2 = (if opE F1 [] 5 c2 = 0 then Os.Op.opened [] 5 1 1 else []) from by simp [ops],if_pos ho]
  decide
theorem ul_3:Sp.ulE (Sp.chk Sp.isSp) F1 0 1 xA 3 = 0/\Sp.ulT (Sp.chk Sp.isSp) F1 0 1 xA 3 = F3/\Sp.ulH (Sp.chk Sp.isSp) F1 0 1 xA 3 = (1,1):=by
 obtain ⟨h1,h2,h3⟩:=hit_name (L:=F1) (a:=0) (b:=1) (s:=xA) (es:=[(xA,1,1,1)]) (nx:=1) (k:=0) (x:=(xA,1,1,1)) (by decide) (by rfl) (by decide) (dir_one okA (by decide)) okA (at_first rfl) rfl
 have hs:=st_fine (st:=3) isSp_F1 (by decide)
 have ht:Sp.toErr (Sp.chk Sp.isSp) F1 3 0 1 xA = 0:=by unfold Sp.toErr;rw [if_pos hs,h1]
 have hh:Sp.toH (Sp.chk Sp.isSp) F1 3 0 1 xA = (1,1):=by unfold Sp.toH;rw [if_pos hs,h2]
 have hE:Sp.ulE (Sp.chk Sp.isSp) F1 0 1 xA 3 = 0:=by
  unfold Sp.ulE
  rw [if_pos ht,hh]
  rfl
 refine ⟨hE,?_,by unfold Sp.ulH;rw [if_pos hE,hh]⟩
 unfold Sp.ulT
 rw [if_pos hE,hh]
 unfold Sp.lessDir
 rw [show findI F1 0 1 = ⟨1,2,1,1,1,[],[(xA,1,1,1)],1⟩ from by rfl]
 dsimp only
 rw [h3]
 rfl
theorem step3:doR F1 O1 2 5 c3 = bad 0/\doT F1 O1 2 5 c3 = F3/\doO F1 O1 2 5 c3 = O1/\doD F1 O1 2 5 = 3:=by
 obtain ⟨h1,h2,h3,h4⟩:=do_fine (c:=c3) (ref_fine (cl:=5) right_2 (by decide) (by decide)) (by decide)
 obtain ⟨m1,m2,m3⟩:=ul_3
 have hn:needB F3 O1 (1,1) = true:=by decide
 refine ⟨?_,?_,?_,h4⟩
 ·rw [h1,show rep F1 O1 (2 + 1) 5 c3 = bad (unE F1 O1 0 1 xA 3) from by simp [rep]]
  unfold unE reE
  rw [if_pos m1,m2,m3,if_pos hn]
 ·rw [h2,show tab F1 O1 (2 + 1) 5 c3 = unT F1 O1 0 1 xA 3 from by simp [tab]]
  unfold unT reT
  rw [if_pos m1,m2,m3,if_pos hn]
 ·rw [h3]
  simp [ops]
theorem step4:doR F3 O1 3 5 c4 = ⟨0,0,0,1,0,1,4,e0,[],0⟩/\doT F3 O1 3 5 c4 = F4/\doO F3 O1 3 5 c4 = O1/\doD F3 O1 3 5 = 4:=by
 obtain ⟨h1,h2,h3,h4⟩:=do_fine (c:=c4) (ref_fine (cl:=5) right_3 (by decide) (by decide)) (by decide)
 have hf:fndE F3 1 1 1 405 = 0:=by decide
 have hi:findI F3 1 1 = ⟨1,1,0,0,3,[],[],0⟩:=by rfl
 have hw:Bs.Bl.wErr [] 0 xX = 0:=by decide
 have hx:wrX ⟨1,1,0,0,3,[],[],0⟩ c4 4 = ⟨1,1,0,1,4,[(0,xX)],[],0⟩:=by
  unfold wrX wrN wrO
  rfl
 have hr:¬ 8192 < room F3 ⟨1,1,0,0,3,[],[],0⟩ c4:=by decide +kernel
 have hp:putErr F3 1 1 ⟨1,1,0,1,4,[(0,xX)],[],0⟩ = 0:=by decide
 refine ⟨?_,?_,?_,h4⟩
 ·rw [h1,show rep F3 O1 (3 + 1) 5 c4 = wrP F3 c4 4 from by simp [rep]]
  unfold wrP
  rw [hi,hx,hp,if_neg (by rw [hf];decide),if_neg (by decide),if_neg (by rw [hw];decide),if_neg (by decide),if_neg hr]
 ·rw [h2,show tab F3 O1 (3 + 1) 5 c4 = wrT F3 c4 4 from by simp [tab]]
  unfold wrT ptT
  rw [hi,hx,if_neg (by rw [hf];decide),if_neg (by decide),if_neg (by rw [hw];decide),if_neg (by decide),if_neg hr,if_pos hp]
  rfl
 ·rw [h3]
  simp [ops]
theorem step5:doR F4 O1 4 5 c5 = bad 0/\doT F4 O1 4 5 c5 = F5/\doO F4 O1 4 5 c5 = []/\doD F4 O1 4 5 = 5:=by
 obtain ⟨h1,h2,h3,h4⟩:=do_fine (c:=c5) (ref_fine (cl:=5) right_4 (by decide) (by decide)) (by decide)
 have hc:Os.Op.closeErr O1 5 0 = 0:=by decide
 have hd:Os.Op.closed O1 5 0 = []:=by decide
 have ho:Os.Op.closeOf O1 5 0 = (1,1):=by decide
 have hn:needB F4 [] (1,1) = false:=by decide
 have hp:dropErr F4 1 1 = 0:=by decide
 refine ⟨?_,?_,?_,h4⟩
 ·rw [h1,show rep F4 O1 (4 + 1) 5 c5 = bad (clE F4 O1 5 0) from by simp [rep]]
  unfold clE reE
  rw [if_pos hc,hd,ho,hn,hp]
  rfl
 ·rw [h2,show tab F4 O1 (4 + 1) 5 c5 = clT F4 O1 5 0 from by simp [tab]]
  unfold clT reT
  rw [if_pos hc,hd,ho,hn,hp]
  rfl
 ·rw [h3,show ops F4 O1 5 c5 = (if Os.Op.closeErr O1 5 0 = 0 then Os.Op.closed O1 5 0 else O1) from by simp [ops],if_pos hc,hd]
theorem step6:(doR F5 [] 5 5 c6).e = 401/\doD F5 [] 5 5 = 6:=by
 obtain ⟨h1,h2,h3,h4⟩:=do_fine (c:=c6) (ref_fine (cl:=5) right_5 (by decide) (by decide)) (by decide)
 refine ⟨?_,h4⟩
 rw [h1,show rep F5 [] (5 + 1) 5 c6 = readP F5 c6 from by simp [rep]]
 show rdE F5 c6 = 401
 unfold rdE
 rw [if_neg (by decide)]
 decide
end Nf
end Go.Proofs.YtneojimodomohaaGreat
