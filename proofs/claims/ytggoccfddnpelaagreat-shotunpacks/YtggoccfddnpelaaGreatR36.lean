/- NRb, NHe, NRj, RRefU, as one. -/
import Derived.Test.YtggoccfddnpelaaGreatR33
namespace Go.Proofs.YtggoccfddnpelaaGreat
open Go.ChangeShapes Go.WideShapes Go.ChangeAt Go.RowKit Go.Deep It
set_option maxRecDepth 100000
set_option maxHeartbeats 4000000 in
theorem rbytes_any {S : Nat → Prop} (v : Value) (L : List Rw) (w : World) (hv : TabAt S w v L) :
    Calls Tryz.prog 77 #[v] w fun e w'=>e = .returned (.int .i64 (allBytes (pl L)))/\Below w.heap.size w w':=by
  obtain ⟨ao,cap,rfl,hm,hx⟩:=hv.open
  clear hv
  unfold maxLen at hm
  obtain ⟨n,hn⟩:∃ n,L.length = n:=⟨_,rfl⟩
  rw [hn] at hm ⊢
  have HN:Hid (L.length = n):=hn
  have HX:Hid (∀ i x,L[i]? = some x->(∃ b off,ao = some ⟨b,off,none⟩/\b < w.heap.size/\eight w b (off + i * 8) x)/\Good S w x):=hx
  clear hn hx
  go_enter Tryz.func77,Tryz.ntmps77
  go_wp2
  go_loopw [3,10] (fun t i wr=>∃ (k:Nat) (y:Int),k<=n/\i = .int .i64 k/\t = .int .i64 y/\y = allBytes ((pl L).take k)/\Below w.heap.size w wr) (fun _ i _=>n - (intOf i).toNat)
  case atStart=>exact ⟨0,0,Nat.zero_le _,rfl,rfl,rfl,Below.refl _ _⟩
  case round =>
    obtain ⟨k,y,hk,rfl,rfl,hy,hbl⟩:=hrel
    have HY:Hid (y = allBytes ((pl L).take k)):=hy
    have hsz:=hbl.size
    clear hy
    by_cases hlt:k < n
    · obtain ⟨x, hxk⟩ : ∃ y, L[k]? = some y := ⟨_, List.getElem?_eq_getElem (by rw [HN.out]; exact hlt)⟩
      obtain ⟨⟨b,off,rfl,hB,hc⟩,hg⟩:=HX.out k x hxk
      obtain ⟨d0,d1,d2,d3,d4,d5,d6,d7⟩:=hc.below hbl hB
      have HS:Hid (allBytes ((pl L).take (k + 1)) = wrap64 (allBytes ((pl L).take k) + Bl.sumw x.i.runs)):=bytes_succ (It.pl_get hxk)
      have HGX:Hid (Good S wr x):=hg.up hbl
      have hrl:=hg.len.1
      obtain ⟨X,hX⟩:∃ X,X = x:=⟨_,rfl⟩
      rw [← hX] at HS HGX
      have hrr:(Value.slice x.rp x.rn x.rc) = .slice X.rp X.rn X.rc:=by rw [hX]
      have hri:x.i.runs = X.i.runs:=by rw [hX]
      rw [hri] at hrl
      obtain ⟨⟨g,kk,l,s,t,rs,es,nx⟩,rp,rn,rc,ep,en,ec⟩:=x
      simp only at d0 d1 d2 d3 d4 d5 d6 d7 hrr hrl
      obtain ⟨W,hW⟩:∃ W,W = wr.alloc (B8 g kk l s t (.slice rp rn rc) (.slice ep en ec) nx):=⟨_,rfl⟩
      have bW:Below wr.heap.size wr W:=by rw [hW];exact (Below.refl _ _).alloc (Nat.le_refl _) _
      have hFA:FieldsAt W.heap.size W (.slice rp rn rc) X.i.runs:=by
        rw [hrr]
        exact (HGX.out.1.up bW).fields
      obtain ⟨ao',cap',hv',hm',hxr⟩:=hFA.open
      simp only [Value.slice.injEq] at hv'
      obtain ⟨rfl,-,rfl⟩:=hv'
      have HXR:Hid (∀ j,j < X.i.runs.length->∃ b off,rp = some ⟨b,off,none⟩/\b < W.heap.size/\W.cell? ⟨b,off + j * 2,none⟩ = some (.int .i64 (X.i.runs.getD j (0,.empty)).1)/\W.cell? ⟨b,off + j * 2 + 1,none⟩ = some (.string (X.i.runs.getD j (0,.empty)).2)):=hxr
      have HRL:Hid (rn = X.i.runs.length):=hrl
      have hrn:rn<=9223372036854775807:=by unfold maxLen at hm';omega
      have HBW:Hid (Below w.heap.size w W):=hbl.trans (bW.mono hsz)
      have HYB:Hid (y = bytesAt (pl L) k 0 X.i):=by show y = bytesAt (pl L) k 0 X.i;rw [HY.out];rfl
      have hlt':(k:Int) < (n:Int):=by omega
      clear hxk hc hg hB hX hrr hri hFA hxr hm' hrl bW
      go_wp2
      rw [← hW]
      clear hW d0 d1 d2 d3 d4 d5 d6 d7 HY hbl hsz
      go_loopw [3,17] (fun t i w2=>∃ (j:Nat) (z:Int),j<=rn/\i = .int .i64 j/\t = .int .i64 z/\z = bytesAt (pl L) k j X.i/\Below W.heap.size W w2) (fun _ i _=>rn - (intOf i).toNat)
      case atStart=>exact ⟨0,y,Nat.zero_le _,rfl,rfl,HYB.out,Below.refl _ _⟩
      case round =>
        obtain ⟨j,z,hj,rfl,rfl,hz,hbl⟩:=hrel
        have HZ:Hid (z = bytesAt (pl L) k j X.i):=hz
        have hsz:=hbl.size
        clear hz
        by_cases hjl:j < rn
        · obtain ⟨b2, off2, rfl, hB2, c0, c1⟩ := HXR.out j (by rw [← HRL.out]; exact hjl)
          have hget:X.i.runs[j]? = some (X.i.runs.getD j (0,.empty)):=by simp [List.getD,show j < X.i.runs.length from by rw [← HRL.out];exact hjl]
          have HBS:=bytesAt_succ (L:=pl L) (k:=k) hget
          rw [← hbl.cell (p:=⟨b2,off2 + j * 2,none⟩) hB2] at c0
          rw [← hbl.cell (p:=⟨b2,off2 + j * 2 + 1,none⟩) hB2] at c1
          generalize X.i.runs.getD j (0,.empty) = r at c0 c1 HBS hget
          obtain ⟨ra,rd⟩:=r
          simp only at c0 c1 HBS
          have HBS2:Hid (bytesAt (pl L) k (j + 1) X.i = wrap64 (bytesAt (pl L) k j X.i + (rd.size:Int))):=HBS
          have hjI:(j:Int) < (rn:Int):=by omega
          clear HBS hget hB2
          go_wp2
          go_roundw
          case rel=>exact ⟨j + 1,_,by omega,by go_num,rfl,by rw [HBS2.out,← HZ.out],hbl.alloc hsz _⟩
          case measure=>simp [intOf];omega
        · obtain rfl : j = rn := by omega
          have HE:Hid (z = allBytes ((pl L).take (k + 1))):=by
            show z = _
            rw [HZ.out,HS.out,HRL.out,bytesAt_end]
          have HBZ:Hid (Below w.heap.size w wr):=HBW.out.trans (hbl.mono HBW.out.size)
          clear hbl hsz
          go_wp2
          go_roundw
          case rel=>exact ⟨k + 1,_,by omega,by go_num,rfl,HE.out,HBZ.out⟩
          case measure=>simp [intOf];omega
    · obtain rfl : k = n := by omega
      have HE:Hid (y = allBytes (pl L)):=by
        have h:=HY.out
        rw [List.take_of_length_le (by simp [pl,HN.out])] at h
        exact h
      go_wp2
      go_ret
      exact ⟨by rw [HE.out];rfl,hbl⟩
set_option maxHeartbeats 4000000 in
theorem rheld_any (v : Value) (O : List Os.Opn) (no gen : Int) (w : World) (hv : AtW Os.EO w v O) :
    Calls Tryz.prog 80 #[v,.agg #[.int .i64 no,.int .i64 gen]] w fun e w'=>e = .returned (.bool (decide (0 < Os.Op.held O no gen)))/\Below w.heap.size w w':=by
  obtain ⟨ao,cap,rfl,hm,hx⟩:=hv.open
  clear hv
  unfold maxLen at hm
  obtain ⟨n,hn⟩:∃ n,O.length = n:=⟨_,rfl⟩
  rw [hn] at hm ⊢
  have HN:Hid (O.length = n):=hn
  have HX:Hid (∀ i x,O[i]? = some x->∃ b off,ao = some ⟨b,off,none⟩/\True/\b < w.heap.size/\∀ k u,(Os.EO.cells x)[k]? = some u->w.cell? ⟨b,off + (i * Os.EO.sz + k),none⟩ = some u):=hx
  obtain ⟨r,hr⟩:∃ r,decide (0 < Os.Op.held O no gen) = r:=⟨_,rfl⟩
  rw [hr]
  have HR:Hid (decide (0 < Os.Op.held O no gen) = r):=hr
  obtain ⟨W,hW⟩:∃ W,W = w.alloc (BH no gen):=⟨_,rfl⟩
  have HB0:Hid (Below w.heap.size w W):=by show Below w.heap.size w W;rw [hW];exact (Below.refl _ w).alloc (Nat.le_refl _) _
  have HA0:Hid (W.heap[w.heap.size]? = some (BH no gen)):=by show W.heap[w.heap.size]? = _;rw [hW];exact heap_alloc_new _ _
  have hwW:w.heap.size < W.heap.size:=(Array.getElem?_eq_some_iff.1 HA0.out).1
  clear hn hx hr
  go_enter Tryz.func80,Tryz.ntmps80
  go_wp2_with fail
  rw [← hW]
  clear hW
  go_loopw [9] (fun i wr=>∃ k:Nat,k<=n/\i = .int .i64 k/\Hid (Os.Op.held O no gen = Os.Op.held (O.drop k) no gen)/\Hid (Below W.heap.size W wr)) (fun i _=>n - (intOf i).toNat)
  case atStart=>exact ⟨0,Nat.zero_le _,rfl,rfl,Below.refl _ _⟩
  case round =>
    obtain ⟨k,hk,rfl,HP,HB⟩:=hrel
    have hsz:=HB.out.size
    by_cases hlt:k < n
    · obtain ⟨x, hxk⟩ : ∃ x, O[k]? = some x := ⟨_, List.getElem?_eq_getElem (by rw [HN.out]; exact hlt)⟩
      obtain ⟨b,off,rfl,-,hbl,hc⟩:=HX.out k x hxk
      have hbw:=HB0.out.trans (HB.out.mono HB0.out.size)
      obtain ⟨x0,x1,x2,x3⟩:=x
      have aa:=fun j u hj=>(hbw.cell (p:=⟨b,off + (k * Os.EO.sz + j),none⟩) hbl).trans (hc j u hj)
      have c0:wr.cell? ⟨b,off + k * 4,none⟩ = some (.int .i64 x0):=aa 0 _ rfl
      have c1:wr.cell? ⟨b,off + k * 4 + 1,none⟩ = some (.int .i64 x1):=aa 1 _ rfl
      have c2:wr.cell? ⟨b,off + k * 4 + 2,none⟩ = some (.int .i64 x2):=aa 2 _ rfl
      have c3:wr.cell? ⟨b,off + k * 4 + 3,none⟩ = some (.int .i64 x3):=aa 3 _ rfl
      have HD:Hid (O.drop k = (x0,x1,x2,x3) :: O.drop (k + 1)):=Os.Op.drop_at hxk
      have HAr:Hid (wr.heap[w.heap.size]? = some (BH no gen)):=(HB.out.block _ hwW).trans HA0.out
      obtain ⟨⟨h0,h1⟩,-⟩:=two_of HAr.out
      have hlw:w.heap.size < wr.heap.size:=(Array.getElem?_eq_some_iff.1 HAr.out).1
      have hlt':(k:Int) < (n:Int):=by omega
      have HBn:Hid (Below W.heap.size W (wr.alloc (Os.BO (x0,x1,x2,x3)))):=HB.out.alloc hsz _
      have HBz:Hid (Below w.heap.size w (wr.alloc (Os.BO (x0,x1,x2,x3)))):=hbw.alloc (by have h:=hbw.size;exact h) _
      clear aa hc hxk hbw
      by_cases e1:x2 = no
      · by_cases e2 : x3 = gen
        · have hr1 : r = true := by
            rw [← HR.out,HP.out,HD.out]
            unfold Os.Op.held
            rw [List.countP_cons]
            simp [e1,e2]
          subst e1 e2 hr1
          go_wp2
          go_ret
          exact ⟨rfl,HBz.out⟩
        · have t1 : (x3 == gen) = false := by simpa using e2
          have HP2:Hid (Os.Op.held O no gen = Os.Op.held (O.drop (k + 1)) no gen):=by
            show _ = _
            rw [HP.out,HD.out]
            unfold Os.Op.held
            rw [List.countP_cons]
            simp [e2]
          subst e1
          go_wp2
          go_roundw
          case rel=>exact ⟨k + 1,by omega,by go_num,HP2,HBn⟩
          case measure=>simp [intOf];omega
      · have t1 : (x2 == no) = false := by simpa using e1
        have HP2:Hid (Os.Op.held O no gen = Os.Op.held (O.drop (k + 1)) no gen):=by
          show _ = _
          rw [HP.out,HD.out]
          unfold Os.Op.held
          rw [List.countP_cons]
          simp [e1]
        go_wp2
        go_roundw
        case rel=>exact ⟨k + 1,by omega,by go_num,HP2,HBn⟩
        case measure=>simp [intOf];omega
    · obtain rfl : k = n := by omega
      have hr0:r = false:=by
        rw [← HR.out,HP.out,List.drop_of_length_le (by rw [HN.out];exact Nat.le_refl _)]
        rfl
      subst hr0
      have HBZ:Hid (Below w.heap.size w wr):=HB0.out.trans (HB.out.mono HB0.out.size)
      go_wp2
      go_ret
      exact ⟨rfl,HBZ.out⟩
/-- What the first test asks. -/
noncomputable def Nf.askB (r1 r2:Bool) (y t dn:Int):Bool:=r1 && (r2 && (decide (y<=8192) && (decide (0<=dn) && (decide (dn<=1099511627776) && decide (t<=dn)))))
theorem bo_of {w:World} {A:Nat} {a b c d:Int} (h:w.heap[A]? = some (Os.BO (a,b,c,d))) :
    w.cell? ⟨A,0,none⟩ = some (.int .i64 a)/\w.cell? ⟨A,1,none⟩ = some (.int .i64 b)/\w.cell? ⟨A,2,none⟩ = some (.int .i64 c)/\w.cell? ⟨A,3,none⟩ = some (.int .i64 d):=by
  refine ⟨?_,?_,?_,?_⟩ <;> simp [World.cell?,h,Os.BO]
theorem links_ge {L:List Ino} (hr:It.right L = true) {k:Nat} {x:Ino} (hx:L[k]? = some x):0<=x.links:=by
  have h:=Sp.attr_of hr (List.mem_of_getElem? hx)
  have h':=At.right_iff.1 h
  unfold At.rightP at h'
  omega
def Nf.OnF (T:List Ino) (o:Os.Opn):Prop:=∃ (i:Nat) (x:Ino),T[i]? = some x/\o.2.2.1 = (i:Int)/\x.gen = o.2.2.2/\x.kind = 1
theorem Nf.ask_right {L:List Ino} {O:List Os.Opn} {dn:Int} (h:Nf.askB (Sp.isSp L) (Os.Op.right 0 O) (allBytes L) (Sp.top L) dn = true):Nf.right L O dn = Nf.filesOk L O:=by
  simp only [Nf.askB,Bool.and_eq_true,decide_eq_true_eq] at h
  obtain ⟨h1,h2,h3,h4,h5,h6⟩:=h
  have h7:Nf.doneOk L dn = true:=Nf.doneOk_iff.2 ⟨⟨h4,h5⟩,fun x hx=>Int.le_trans (Sp.top_ge hx) h6⟩
  unfold Nf.right
  rw [h1,h2,h7]
  simp [h3]
theorem Nf.no_right {L:List Ino} {O:List Os.Opn} {dn:Int} (h:Nf.askB (Sp.isSp L) (Os.Op.right 0 O) (allBytes L) (Sp.top L) dn = false):Nf.right L O dn = false:=by
  cases hr:Nf.right L O dn with
  | false=>rfl
  | true =>
    unfold Nf.right at hr
    simp only [Bool.and_eq_true,decide_eq_true_eq] at hr
    obtain ⟨h1,h2,-,h3,h4⟩:=hr
    obtain ⟨⟨h5,h6⟩,h7⟩:=Nf.doneOk_iff.1 h4
    have h8:Sp.top L<=dn:=Sp.top_le h5 h7
    simp [Nf.askB,h1,h2,h3,h5,h6,h8] at h
theorem Nf.right_ask {L:List Ino} {O:List Os.Opn} {dn:Int}:Nf.right L O dn = (Nf.askB (Sp.isSp L) (Os.Op.right 0 O) (allBytes L) (Sp.top L) dn && Nf.filesOk L O):=by
  cases h:Nf.askB (Sp.isSp L) (Os.Op.right 0 O) (allBytes L) (Sp.top L) dn with
  | false=>exact Nf.no_right h
  | true=>exact Nf.ask_right h
set_option maxHeartbeats 8000000 in
theorem nrright_any {S : Nat → Prop} (vi vo : Value) (sp : Option Addr) (sn sc : Nat) (dn : Int) (L : List Rw) (O : List Os.Opn) (w : World) (hv : TabAt S w vi L) (hok : Sp.okN L) (ho : AtW Os.EO w vo O) :
    Calls Tryz.prog 56 #[VSt vi vo (.slice sp sn sc) dn] w fun e w'=>e = .returned (.bool (Nf.right (pl L) O dn))/\Below w.heap.size w w':=by
  rw [Nf.right_ask]
  have HV:Hid (TabAt S w vi L):=hv
  have HO:Hid (AtW Os.EO w vo O):=ho
  have HOK:Hid (Sp.okN L):=hok
  obtain ⟨W,hW⟩:∃ W,W = w.alloc (BSt vi vo (.slice sp sn sc) dn):=⟨_,rfl⟩
  have HB0:Hid (Below w.heap.size w W):=by show Below w.heap.size w W;rw [hW];exact (Below.refl _ w).alloc (Nat.le_refl _) _
  have HA0:Hid (W.heap[w.heap.size]? = some (BSt vi vo (.slice sp sn sc) dn)):=by show W.heap[w.heap.size]? = _;rw [hW];exact heap_alloc_new _ _
  obtain ⟨p,c,rfl,-,-⟩:=hv.open
  obtain ⟨q,d,rfl,-,-⟩:=ho.open
  obtain ⟨n,hn'⟩:∃ n,L.length = n:=⟨_,rfl⟩
  obtain ⟨m,hm'⟩:∃ m,O.length = m:=⟨_,rfl⟩
  rw [hn'] at HV HA0 hW ⊢
  rw [hm'] at HO HA0 hW ⊢
  obtain ⟨r1,hr1⟩:∃ r,Sp.isSp (pl L) = r:=⟨_,rfl⟩
  obtain ⟨r2,hr2⟩:∃ r,Os.Op.right 0 O = r:=⟨_,rfl⟩
  obtain ⟨y,hy⟩:∃ r,allBytes (pl L) = r:=⟨_,rfl⟩
  obtain ⟨t,ht⟩:∃ r,Sp.top (pl L) = r:=⟨_,rfl⟩
  rw [hr1,hr2,hy,ht]
  obtain ⟨b,hno⟩:∃ b,Nf.askB r1 r2 y t dn = b:=⟨_,rfl⟩
  rw [hno]
  have HC1:Hid (∀ V,W.grownBy V none->Calls Tryz.prog 75 #[.slice p n c] V fun e w'=>e = .returned (.bool r1)/\Below V.heap.size V w'):=fun V hV=>by rw [← hr1];exact rspace_any S _ L V ((HV.out.up HB0.out).up (below_none hV (Nat.le_refl _))) HOK.out
  have HC2:Hid (∀ V,W.grownBy V none->Calls Tryz.prog 76 #[.slice q m d] V fun e w'=>e = .returned (.bool r2)/\Below V.heap.size V w'):=fun V hV=>by rw [← hr2];exact Os.rright_any _ O V ((HO.out.up HB0.out).up (below_none hV (Nat.le_refl _)))
  have HC3:Hid (∀ V,W.grownBy V none->Calls Tryz.prog 77 #[.slice p n c] V fun e w'=>e = .returned (.int .i64 y)/\Below V.heap.size V w'):=fun V hV=>by rw [← hy];exact rbytes_any _ L V ((HV.out.up HB0.out).up (below_none hV (Nat.le_refl _)))
  have HC4:Hid (∀ V,W.grownBy V none->Calls Tryz.prog 78 #[.slice p n c] V fun e w'=>e = .returned (.int .i64 t)/\Below V.heap.size V w'):=fun V hV=>by rw [← ht];exact rstamp_any _ L V ((HV.out.up HB0.out).up (below_none hV (Nat.le_refl _)))
  obtain ⟨a0,a1,a2,a3⟩:=st_of HA0.out
  have d0:=fun p:Grw W=>cell_step a0 p.below
  have d1:=fun p:Grw W=>cell_step a1 p.below
  have d2:=fun p:Grw W=>cell_step a2 p.below
  have d3:=fun p:Grw W=>cell_step a3 p.below
  have hne9:Nonempty (Grw W):=grw_some W
  have HN:Hid (L.length = n):=hn'
  have HM:Hid (O.length = m):=hm'
  obtain ⟨f,hf⟩:∃ f,Nf.filesOk (pl L) O = f:=⟨_,rfl⟩
  have HF:Hid (Nf.filesOk (pl L) O = f):=hf
  rw [hf]
  have HI:Hid (Sp.isSp (pl L) = r1):=hr1
  clear hf hv ho hok hn' hm' hr1 hr2 hy ht a0 a1 a2 a3
  go_enter Tryz.func56,Tryz.ntmps56
  go_wp2_with fail
  rw [← hW]
  clear hW
  cases b with
  | false =>
    have hor:r1 = false∨(r1 = true/\r2 = false)∨(r1 = true/\r2 = true/\8192 < y)∨(r1 = true/\r2 = true/\¬ 8192 < y/\dn < 0)∨(r1 = true/\r2 = true/\¬ 8192 < y/\¬ dn < 0/\1099511627776 < dn)∨(r1 = true/\r2 = true/\¬ 8192 < y/\¬ dn < 0/\¬ 1099511627776 < dn/\dn < t):=by
      cases r1 with
      | false=>exact .inl rfl
      | true =>
        cases r2 with
        | false=>exact .inr (.inl ⟨rfl,rfl⟩)
        | true =>
          have hn:¬ (y<=8192/\0<=dn/\dn<=1099511627776/\t<=dn):=fun h=>by simp [Nf.askB,h.1,h.2.1,h.2.2.1,h.2.2.2] at hno
          simp only [true_and,Bool.true_eq_false,false_or]
          omega
    clear hno
    rcases hor with rfl | ⟨rfl,rfl⟩ | ⟨rfl,rfl,h3⟩ | ⟨rfl,rfl,h3,h4⟩ | ⟨rfl,rfl,h3,h4,h5⟩ | ⟨rfl,rfl,h3,h4,h5,h6⟩
    all_goals
      refine wp_region_grw (by kernel_rfl) (by kernel_rfl) ?_
      repeat (go_big_quiet_step (first
        | (go_at_call 75;refine calls_grw (Grw.grown _) (HC1.out _ (Grw.grown _)))
        | (go_at_call 76;refine calls_grw (Grw.grown _) (HC2.out _ (Grw.grown _)))
        | (go_at_call 77;refine calls_grw (Grw.grown _) (HC3.out _ (Grw.grown _)))
        | (go_at_call 78;refine calls_grw (Grw.grown _) (HC4.out _ (Grw.grown _)))))
      refine wpQuiet_nil ?_
      rintro w9 ⟨p9,rfl⟩
      have HB9:Hid (Below w.heap.size w p9.out):=HB0.out.trans (p9.below.mono HB0.out.size)
      clear hne9 d0 d1 d2 d3
      go_wp2
      go_ret
      exact ⟨rfl,HB9.out⟩
  | true =>
    have hla:=(Array.getElem?_eq_some_iff.1 HA0.out).1
    have HF0:(Nf.filesOk (pl L) O = true->False)->Hid (f = false):=fun h=>by rw [← HF.out];exact Bool.eq_false_iff.2 h
    simp only [Nf.askB,Bool.and_eq_true,decide_eq_true_eq] at hno
    obtain ⟨rfl,rfl,g3,g4,g5,g6⟩:=hno
    have h3':¬ (8192 < y):=by omega
    have h4':¬ (dn < 0):=by omega
    have h5':¬ (1099511627776 < dn):=by omega
    have h6:¬ (dn < t):=by omega
    clear g3 g4 g5 g6
    refine wp_region_grw (by kernel_rfl) (by kernel_rfl) ?_
    repeat (go_big_quiet_step (first
      | (go_at_call 75;refine calls_grw (Grw.grown _) (HC1.out _ (Grw.grown _)))
      | (go_at_call 76;refine calls_grw (Grw.grown _) (HC2.out _ (Grw.grown _)))
      | (go_at_call 77;refine calls_grw (Grw.grown _) (HC3.out _ (Grw.grown _)))
      | (go_at_call 78;refine calls_grw (Grw.grown _) (HC4.out _ (Grw.grown _)))))
    refine wpQuiet_nil ?_
    rintro w9 ⟨p9,rfl⟩
    obtain ⟨W2,hW2⟩:∃ W2,W2 = p9.out:=⟨_,rfl⟩
    have b9:=p9.below
    rw [← hW2] at b9 ⊢
    have HB2:Hid (Below w.heap.size w W2):=HB0.out.trans (b9.mono HB0.out.size)
    have HA2:Hid (W2.heap[w.heap.size]? = some (BSt (.slice p n c) (.slice q m d) (.slice sp sn sc) dn)):=(b9.block _ hla).trans HA0.out
    have hlw2:w.heap.size < W2.heap.size:=(Array.getElem?_eq_some_iff.1 HA2.out).1
    obtain ⟨a0,a1,a2,a3⟩:=st_of HA2.out
    clear hne9 d0 d1 d2 d3 h3' h4' h5' h6 HC1 HC2 HC3 HC4 b9 hW2 p9 HOK
    go_wp2
    go_loopw [44] (fun i wr=>∃ k:Nat,k<=m/\i = .int .i64 k/\Hid (∀ j o,j < k->O[j]? = some o->Nf.OnF (pl L) o)/\Hid (Below W2.heap.size W2 wr)) (fun i _=>m - (intOf i).toNat)
    case atStart=>exact ⟨0,Nat.zero_le _,rfl,fun j o hj=>absurd hj (Nat.not_lt_zero _),Below.refl _ _⟩
    case round =>
      obtain ⟨k,hk,rfl,HP,HB⟩:=hrel
      have hsz:=HB.out.size
      have HBW:Hid (Below w.heap.size w wr):=HB2.out.trans (HB.out.mono HB2.out.size)
      have HA3:Hid (wr.heap[w.heap.size]? = some (BSt (.slice p n c) (.slice q m d) (.slice sp sn sc) dn)):=(HB.out.block _ hlw2).trans HA2.out
      clear a0 a1 a2 a3
      by_cases hlt:k < m
      · obtain ⟨o, hok⟩ : ∃ o, O[k]? = some o := ⟨_, List.getElem?_eq_getElem (by rw [HM.out]; exact hlt)⟩
        obtain ⟨qo,cq,hq,hmx,hxo⟩:=HO.out.open
        simp only [Value.slice.injEq] at hq
        obtain ⟨rfl,-,rfl⟩:=hq
        have hmm:m<=9223372036854775807:=by
          have:=HM.out
          unfold maxLen at hmx
          omega
        obtain ⟨b,off,rfl,-,hbl,hc⟩:=hxo k o hok
        have HOk:Hid (O[k]? = some o):=hok
        obtain ⟨x0,x1,x2,x3⟩:=o
        have aa:=fun j u hj=>(HBW.out.cell (p:=⟨b,off + (k * Os.EO.sz + j),none⟩) hbl).trans (hc j u hj)
        have c0:wr.cell? ⟨b,off + k * 4,none⟩ = some (.int .i64 x0):=aa 0 _ rfl
        have c1:wr.cell? ⟨b,off + k * 4 + 1,none⟩ = some (.int .i64 x1):=aa 1 _ rfl
        have c2:wr.cell? ⟨b,off + k * 4 + 2,none⟩ = some (.int .i64 x2):=aa 2 _ rfl
        have c3:wr.cell? ⟨b,off + k * 4 + 3,none⟩ = some (.int .i64 x3):=aa 3 _ rfl
        obtain ⟨W3,hW3⟩:∃ W3,W3 = wr.alloc (Os.BO (x0,x1,x2,x3)):=⟨_,rfl⟩
        have b3:Below wr.heap.size wr W3:=by rw [hW3];exact (Below.refl _ _).alloc (Nat.le_refl _) _
        have hlwr:w.heap.size < wr.heap.size:=(Array.getElem?_eq_some_iff.1 HA3.out).1
        have HA4:Hid (W3.heap[w.heap.size]? = some (BSt (.slice p n c) (.slice (some ⟨b,off,none⟩) m d) (.slice sp sn sc) dn)):=(b3.block _ hlwr).trans HA3.out
        have HO4:Hid (W3.heap[wr.heap.size]? = some (Os.BO (x0,x1,x2,x3))):=by show W3.heap[wr.heap.size]? = _;rw [hW3];exact heap_alloc_new _ _
        have HB4:Hid (Below W2.heap.size W2 W3):=HB.out.trans (b3.mono hsz)
        have HBw4:Hid (Below w.heap.size w W3):=HBW.out.trans (b3.mono HBW.out.size)
        have hlA:=(Array.getElem?_eq_some_iff.1 HA4.out).1
        have hlO:=(Array.getElem?_eq_some_iff.1 HO4.out).1
        obtain ⟨a0,a1,a2,a3⟩:=st_of HA3.out
        have hlt':(k:Int) < (m:Int):=by omega
        have hs4:=HB4.out.size
        clear aa hc hok hxo hmx b3 HB HBW
        go_wp2_with fail
        rw [← hW3]
        clear hW3 c0 c1 c2 c3
        refine (rnames_any _ L x2 x3 _ (HV.out.up HBw4.out)).mono ?_
        rintro e w5 ⟨rfl,hb5⟩
        have HA5:Hid (w5.heap[w.heap.size]? = some (BSt (.slice p n c) (.slice (some ⟨b,off,none⟩) m d) (.slice sp sn sc) dn)):=(hb5.block _ hlA).trans HA4.out
        have HO5:Hid (w5.heap[wr.heap.size]? = some (Os.BO (x0,x1,x2,x3))):=(hb5.block _ hlO).trans HO4.out
        have HB5:Hid (Below W2.heap.size W2 w5):=HB4.out.trans (hb5.mono hs4)
        have HBw5:Hid (Below w.heap.size w w5):=HBw4.out.trans (hb5.mono HBw4.out.size)
        clear a0 a1 a2 a3 hb5
        obtain ⟨a0,a1,a2,a3⟩:=st_of HA5.out
        obtain ⟨e0,e1,e2,e3⟩:=bo_of HO5.out
        cases hnm:names (pl L) x2 x3 with
        | false =>
          obtain rfl:f = false:=HF0 fun hr=>by
            obtain ⟨i,x,hx,h1,h2,h3⟩:=(Nf.filesOk_iff.1 hr).1 _ (List.mem_of_getElem? HOk.out)
            have:names (pl L) x2 x3 = true:=It.names_iff.2 ⟨i,x,hx,h1,h2,by omega⟩
            rw [hnm] at this
            cases this
          clear hnm
          go_wp2
          go_ret
          exact ⟨rfl,HBw5.out⟩
        | true =>
          obtain ⟨i,xi,hxi,h1,h2,h3⟩:=It.names_iff.1 hnm
          subst h1
          obtain ⟨x,hx,hxe⟩:∃ x,L[i]? = some x/\x.i = xi:=by
            unfold pl at hxi
            rw [List.getElem?_map] at hxi
            cases hL:L[i]? with
            | none=>rw [hL] at hxi;simp at hxi
            | some x=>rw [hL] at hxi;exact ⟨x,rfl,by simpa using hxi⟩
          obtain ⟨pa,ca,hp,hmi,hxx⟩:=HV.out.open
          simp only [Value.slice.injEq] at hp
          obtain ⟨rfl,-,rfl⟩:=hp
          obtain ⟨⟨bi,offi,rfl,hbi,hci⟩,-⟩:=hxx i x hx
          have hin:i < n:=by rw [← HN.out];exact (List.getElem?_eq_some_iff.1 hx).1
          have hin':(i:Int) < (n:Int):=by omega
          obtain ⟨z0,z1,z2,z3,z4,z5,z6,z7⟩:=hci.below HBw5.out hbi
          have HX:Hid ((pl L)[i]? = some x.i):=It.pl_get hx
          subst hxe
          have HG:Hid (x.i.gen = x3):=h2
          obtain ⟨⟨g,kk,l,s,tt,rs,es,nx⟩,rp,rn,rc,ep,en,ec⟩:=x
          simp only at z0 z1 z2 z3 z4 z5 z6 z7
          clear hnm hxi h2 h3 hmi hxx hx hbi hci
          by_cases e:kk = 1
          · have e' : (kk != 1) = false := by simp [e]
            have HP2:Hid (∀ j o,j < k + 1->O[j]? = some o->Nf.OnF (pl L) o):=fun j o hj ho=>by
              rcases Nat.lt_or_ge j k with h | h
              · exact HP.out j o h ho
              · obtain rfl : j = k := by omega
                rw [HOk.out] at ho
                cases ho
                exact ⟨i,_,HX.out,rfl,HG.out,e⟩
            clear e
            go_wp2
            go_roundw
            case rel=>exact ⟨k + 1,by omega,by go_num,HP2,HB5⟩
            case measure=>simp [intOf];omega
          · have e' : (kk != 1) = true := by simp [e]
            obtain rfl:f = false:=HF0 fun hr=>by
              obtain ⟨i',y',hy,h1,h2,h3⟩:=(Nf.filesOk_iff.1 hr).1 _ (List.mem_of_getElem? HOk.out)
              obtain rfl:i' = i:=by simp only at h1;omega
              rw [HX.out] at hy
              cases hy
              exact absurd h3 e
            clear e
            go_wp2
            go_ret
            exact ⟨rfl,HBw5.out⟩
      · obtain rfl : k = m := by omega
        have HFl:Hid (Nf.Fl (pl L) O):=fun o ho=>by
          obtain ⟨j,hj,rfl⟩:=List.getElem_of_mem ho
          exact HP.out j _ (by rw [← HM.out];exact hj) (List.getElem?_eq_getElem hj)
        obtain ⟨a0,a1,a2,a3⟩:=st_of HA3.out
        clear HP HB hsz
        obtain ⟨wv,rfl⟩:∃ wv,wv = wr:=⟨_,rfl⟩
        go_wp2
        have hlr:=(Array.getElem?_eq_some_iff.1 HA3.out).1
        clear a0 a1 a2 a3
        go_loopw [70] (fun i wr=>∃ k:Nat,k<=n/\i = .int .i64 k/\Hid (∀ j x,j < k->(pl L)[j]? = some x->x.kind = 1->x.links<=0->Nf.Hl O j x.gen)/\Hid (Below wv.heap.size wv wr)) (fun i _=>n - (intOf i).toNat)
        case atStart=>exact ⟨0,Nat.zero_le _,rfl,fun j o hj=>absurd hj (Nat.not_lt_zero _),Below.refl _ _⟩
        case round =>
          obtain ⟨k2,hk2,rfl,HP,HB⟩:=hrel
          have hsz:=HB.out.size
          have HBQ:Hid (Below w.heap.size w wr):=HBW.out.trans (HB.out.mono HBW.out.size)
          have HA5:Hid (wr.heap[w.heap.size]? = some (BSt (.slice p n c) (.slice q k d) (.slice sp sn sc) dn)):=(HB.out.block _ hlr).trans HA3.out
          obtain ⟨pa,ca,hp,hmi,hxx⟩:=HV.out.open
          have hnn:n<=9223372036854775807:=by
            have:=HN.out
            unfold maxLen at hmi
            omega
          by_cases hlt:k2 < n
          · obtain ⟨x, hx⟩ : ∃ x, L[k2]? = some x := ⟨_, List.getElem?_eq_getElem (by rw [HN.out]; exact hlt)⟩
            simp only [Value.slice.injEq] at hp
            obtain ⟨rfl,-,rfl⟩:=hp
            obtain ⟨⟨bi,offi,rfl,hbi,hci⟩,-⟩:=hxx k2 x hx
            obtain ⟨z0,z1,z2,z3,z4,z5,z6,z7⟩:=hci.below HBQ.out hbi
            have HX:Hid ((pl L)[k2]? = some x.i):=It.pl_get hx
            obtain ⟨X,hX⟩:∃ X,X = x.i:=⟨_,rfl⟩
            rw [← hX] at HX
            have HLK:Hid (0<=X.links):=links_ge (Sp.isSp_iff.1 HI.out).1 HX.out
            obtain ⟨⟨g,kk,l,s,tt,rs,es,nx⟩,rp,rn,rc,ep,en,ec⟩:=x
            simp only at z0 z1 z2 z3 z4 z5 z6 z7 hX
            subst hX
            obtain ⟨W3,hW3⟩:∃ W3,W3 = wr.alloc (B8 g kk l s tt (.slice rp rn rc) (.slice ep en ec) nx):=⟨_,rfl⟩
            have b3:Below wr.heap.size wr W3:=by rw [hW3];exact (Below.refl _ _).alloc (Nat.le_refl _) _
            have HBr:Hid (Below wv.heap.size wv W3):=HB.out.trans (b3.mono hsz)
            have HB3:Hid (Below w.heap.size w W3):=HBQ.out.trans (b3.mono HBQ.out.size)
            have hsr:=HBr.out.size
            obtain ⟨a0,a1,a2,a3⟩:=st_of HA5.out
            have hlt':(k2:Int) < (n:Int):=by omega
            have hlq:w.heap.size < wr.heap.size:=(Array.getElem?_eq_some_iff.1 HA5.out).1
            have HNX:(kk = 1->l<=0->Nf.Hl O k2 g)->Hid (∀ j x,j < k2 + 1->(pl L)[j]? = some x->x.kind = 1->x.links<=0->Nf.Hl O j x.gen):=fun hne j x hj hjx=>by
              rcases Nat.lt_or_ge j k2 with h | h
              · exact HP.out j x h hjx
              · obtain rfl : j = k2 := by omega
                rw [HX.out] at hjx
                cases hjx
                exact hne
            clear hmi hxx hx hbi hci b3 HB
            by_cases e1:kk = 1
            · subst e1
              have t1:((1:Int) == 1) = true:=rfl
              by_cases e2:l = 0
              · subst e2
                have t2:((0:Int) == 0) = true:=rfl
                go_wp2_with fail
                first | rw [← hW3] | skip
                clear hW3 a0 a1 a2 a3 z0 z1 z2 z3 z4 z5 z6 z7
                refine (rheld_any _ O k2 g _ (HO.out.up HB3.out)).mono ?_
                rintro e w5 ⟨rfl,hb5⟩
                have HB5:Hid (Below w.heap.size w w5):=HB3.out.trans (hb5.mono HB3.out.size)
                have HBr5:Hid (Below wv.heap.size wv w5):=HBr.out.trans (hb5.mono hsr)
                clear hb5
                cases hh:decide (0 < Os.Op.held O k2 g) with
                | false =>
                  obtain rfl:f = false:=HF0 fun hr=>by
                    have h:=Nf.held_pos.2 ((Nf.filesOk_iff.1 hr).2 k2 _ HX.out rfl (Int.le_refl 0) id)
                    rw [decide_eq_false_iff_not] at hh
                    exact absurd h hh
                  clear hh HNX
                  go_wp2
                  go_ret
                  exact ⟨rfl,HB5.out⟩
                | true =>
                  have HP2:=HNX fun _ _=>Nf.held_pos.1 (of_decide_eq_true hh)
                  clear hh HNX
                  go_wp2
                  go_roundw
                  case rel=>exact ⟨k2 + 1,by omega,by go_num,HP2,HBr5⟩
                  case measure=>simp [intOf];omega
              · have t2 : (l == 0) = false := by simp [e2]
                have HP2:=HNX fun _ h=>absurd (Int.le_antisymm h HLK.out) e2
                clear e2 HNX
                go_wp2
                go_roundw
                case rel=>exact ⟨k2 + 1,by omega,by go_num,HP2,by rw [← hW3];exact HBr.out⟩
                case measure=>simp [intOf];omega
            · have t1 : (kk == 1) = false := by simp [e1]
              have HP2:=HNX fun h=>absurd h e1
              clear e1 HNX
              go_wp2
              go_roundw
              case rel=>exact ⟨k2 + 1,by omega,by go_num,HP2,by rw [← hW3];exact HBr.out⟩
              case measure=>simp [intOf];omega
          · obtain rfl : k2 = n := by omega
            have hf1:f = true:=by
              rw [← HF.out]
              refine Nf.filesOk_iff.2 ⟨HFl.out,fun i x hx h1 h2 _=>HP.out i x ?_ hx h1 h2⟩
              have:=(List.getElem?_eq_some_iff.1 hx).1
              simp only [pl,List.length_map] at this
              rw [HN.out] at this
              exact this
            subst hf1
            go_wp2
            go_ret
            exact ⟨rfl,HBQ.out⟩
end Go.Proofs.YtggoccfddnpelaaGreat
namespace Go.Proofs.YtggoccfddnpelaaGreat.Ks.Rs
open Go.ChangeShapes Go.WideShapes Go.ChangeAt Go.RowKit Go.Deep
set_option maxRecDepth 100000
open Go.Proofs.YtggoccfddnpelaaGreat.Ks.Ak Go.Proofs.YtggoccfddnpelaaGreat.Ks.Rs.Ak
theorem rnumber_s (s:ByteArray) (w:World) (hs:s.size<=maxLen):Calls Tryz.prog 82 #[.string s] w fun e w'=>e = .returned (.int .i64 (Pl.numVal s))/\w' = w:=by
  have HS:Hid (s.size<=maxLen):=hs
  clear hs
  go_enter Tryz.func82,Tryz.ntmps82
  go_wp2_with fail
  refine (refNumber_any s _ HS.out).mono ?_
  rintro e w1 ⟨rfl,rfl⟩
  go_wp2
  go_ret
  exact ⟨rfl,rfl⟩
set_option maxHeartbeats 1000000 in
theorem rnamed_any (S:ByteArray) (w:World):Calls Tryz.prog 83 #[.string S] w fun e w'=>e = .returned (VH (hno S) (hgen S))/\Below w.heap.size w w':=by
  by_cases h7:S.size = 7
  · have HE : Hid ((S.extract 0 1).size ≤ maxLen ∧ (S.extract 1 7).size ≤ maxLen) := ⟨by rw [ByteArray.size_extract]; unfold maxLen; omega, by rw [ByteArray.size_extract]; unfold maxLen; omega⟩
    have HU:Hid (hno S = Pl.numVal (S.extract 0 1)/\hgen S = Pl.numVal (S.extract 1 7)):=⟨by unfold hno;rw [if_pos h7],by unfold hgen;rw [if_pos h7]⟩
    go_enter Tryz.func83,Tryz.ntmps83
    go_wp2
    go_region_held3 (fun _=>True) (trivial) (first
      | (go_at_call_of 82 (Value.string (S.extract 0 1));refine (rnumber_s _ _ HE.out.1).mono ?_;rintro e w1 ⟨rfl,rfl⟩)
      | (go_at_call_of 82 (Value.string (S.extract 1 7));refine (rnumber_s _ _ HE.out.2).mono ?_;rintro e w1 ⟨rfl,rfl⟩))
    all_goals
      generalize Pl.numVal (S.extract 0 1) = k at HU ⊢
      generalize Pl.numVal (S.extract 1 7) = l at HU ⊢
      go_wp2
      refine bodyPost_ret (v:=VH k l) (by simp [results,Tryz.results83,go_sem]) rfl ⟨?_,?_⟩
      · rw [HU.out.1,HU.out.2]
      · first | exact ((Below.refl _ _).alloc (Nat.le_refl _) _).drew | exact ((Below.refl _ _).drew).alloc (Nat.le_refl _) _
  · have H : Hid (hno S = 0 ∧ hgen S = 0) := ⟨by unfold hno; rw [if_neg h7], by unfold hgen; rw [if_neg h7]⟩
    have h7':((S.size:Int) != 7) = true:=by simp;omega
    clear h7
    rw [H.out.1,H.out.2]
    go_enter Tryz.func83,Tryz.ntmps83
    go_wp2
    exact bodyPost_ret (v:=VH 0 0) (by simp [results,Tryz.results83,go_sem]) rfl ⟨rfl,(Below.refl _ _).alloc (Nat.le_refl _) _⟩
theorem lastOf_take {l:List (Int × ByteArray)} {k:Nat} (h:k < l.length) (t:Int):lastOf (l.take (k + 1)) t = if (l.getD k (0,.empty)).1 = t then (l.getD k (0,.empty)).2 else lastOf (l.take k) t:=by
  rw [List.take_succ_eq_append_getElem h,lastOf_snoc]
  simp [List.getD,h]
set_option maxHeartbeats 1000000 in
theorem value_any (v : Value) (l : List (Int × ByteArray)) (t : Int) (w : World) (hv : FieldsAt w.heap.size w v l) : Calls Tryz.prog 81 #[v, .int .i64 t] w fun e w' => e = .returned (.string (lastOf l t)) ∧ Below w.heap.size w w' := by
  obtain ⟨ao,cap,rfl,hm,hx⟩:=hv.openr
  clear hv
  unfold maxLen at hm
  obtain ⟨n,hn⟩:∃ n,l.length = n:=⟨_,rfl⟩
  rw [hn] at hm hx ⊢
  have HN:Hid (l.length = n):=hn
  have HX:Hid (∀ i,i < n->∃ b off,ao = some ⟨b,off,none⟩/\b < w.heap.size/\w.cell? ⟨b,off + i * 2,none⟩ = some (.int .i64 (l.getD i (0,.empty)).1)/\w.cell? ⟨b,off + i * 2 + 1,none⟩ = some (.string (l.getD i (0,.empty)).2)):=hx
  clear hn hx
  go_enter Tryz.func81,Tryz.ntmps81
  go_wp2
  go_loopw [5,10] (fun s i wr=>∃ k:Nat,k<=n/\i = .int .i64 k/\s = .string (lastOf (l.take k) t)/\Hid (Below w.heap.size w wr)) (fun _ i _=>n - (intOf i).toNat)
  case atStart=>exact ⟨0,Nat.zero_le _,rfl,rfl,Below.refl _ _⟩
  case round =>
    obtain ⟨k,hk,rfl,rfl,HB⟩:=hrel
    have hsz:=HB.out.size
    by_cases hlt:k < n
    · obtain ⟨b, off, rfl, hB, x0, x1⟩ := HX.out k hlt
      rw [← HB.out.cell (p:=⟨b,off + k * 2,none⟩) hB] at x0
      rw [← HB.out.cell (p:=⟨b,off + k * 2 + 1,none⟩) hB] at x1
      have HV:Hid (lastOf (l.take (k + 1)) t = if (l.getD k (0,.empty)).1 = t then (l.getD k (0,.empty)).2 else lastOf (l.take k) t):=lastOf_take (by rw [HN.out];exact hlt) t
      generalize l.getD k (0,.empty) = f at *
      obtain ⟨u,y⟩:=f
      generalize lastOf (l.take k) t = z at *
      by_cases hu:u = t
      · subst hu
        go_wp2
        go_roundw
        case rel=>exact ⟨k + 1,by omega,by go_num,by rw [HV.out,if_pos rfl],HB.out.alloc hsz _⟩
        case measure=>simp [intOf];omega
      · have hu' : (u == t) = false := by simpa using hu
        go_wp2
        go_roundw
        case rel=>exact ⟨k + 1,by omega,by go_num,by rw [HV.out,if_neg hu],HB.out.alloc hsz _⟩
        case measure=>simp [intOf];omega
    · obtain rfl : k = n := by omega
      have HV:Hid (lastOf (l.take k) t = lastOf l t):=by show lastOf (l.take k) t = _;rw [List.take_of_length_le (by rw [HN.out];exact Nat.le_refl _)]
      rw [HV.out]
      go_wp2
      go_ret
      exact ⟨rfl,HB.out⟩
theorem lastOf_small {l:List (Int × ByteArray)} (h:∀ x∈l,x.2.size<=65535) (t:Int):(lastOf l t).size<=65535:=by
  induction l using rev_ind with
  | h0=>exact Nat.zero_le _
  | h1 l x ih =>
    rw [lastOf_snoc]
    split
    · exact h x (by simp)
    · exact ih fun y hy=>h y (by simp [hy])
end Go.Proofs.YtggoccfddnpelaaGreat.Ks.Rs
