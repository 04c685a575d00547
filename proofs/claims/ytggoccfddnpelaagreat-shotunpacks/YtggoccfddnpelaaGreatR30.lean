/- ZCk, as one. -/
import Derived.Test.YtggoccfddnpelaaGreatR27
namespace Go.Proofs.YtggoccfddnpelaaGreat
open Go.ChangeShapes Go.WideShapes Go.ChangeAt Go.RowKit Go.Deep It
set_option maxRecDepth 100000
set_option maxHeartbeats 1000000 in
theorem noReply_any (x:Es.Sea) (w:World) (h:x.2.2.size<=1048576):Calls Tryz.prog 44 #[Es.VS x] w fun e w'=>e = .returned (.bool (Sh.noRep x))/\Below w.heap.size w w':=by
  obtain ⟨r,hr⟩:∃ r,Ks.Rs.Re.unpE x.2.2.data.toList = r:=⟨_,rfl⟩
  have HC:Hid (∀ V,Calls Tryz.prog 70 #[.string x.2.2] V fun e w'=>∃ v,e = .returned (.tuple #[Ks.Rs.VR (Ks.Rs.Re.unpR x.2.2.data.toList) v,.int .i64 r])/\AtW Ks.Rs.EE w' v (Ks.Rs.Re.unpR x.2.2.data.toList).ents/\Below V.heap.size V w'):=fun V=>by
    have h:=Ks.Rs.repUnpack_any x.2.2 V h
    rwa [hr] at h
  have HN:Hid (Sh.noRep x = (r != 0)):=by
    show Sh.noRep x = _
    unfold Sh.noRep
    rw [hr]
    by_cases e:r = 0
    · simp [e]
    · simp [e]
  have HB0:Hid (Below w.heap.size w (w.alloc (Es.BS x))):=(Below.refl _ w).alloc (Nat.le_refl _) _
  clear hr h
  go_enter Tryz.func44,Tryz.ntmps44
  go_wp2_with fail
  refine (HC.out _).mono ?_
  rintro e w1 ⟨v,rfl,hv,hb⟩
  have HB1:Hid (Below w.heap.size w w1):=HB0.out.trans (hb.mono HB0.out.size)
  obtain ⟨va,vn,vc,rfl⟩:∃ a n c,v = .slice a n c:=by obtain ⟨a,c,h,-⟩:=hv.open;exact ⟨_,_,_,h⟩
  have HS:=HB1.out.size
  clear hv hb HB0
  go_wp2
  go_ret
  rw [HN.out]
  exact ⟨rfl,HB1.out.alloc HS _⟩
set_option maxHeartbeats 2000000 in
theorem idxSq (v : Value) (l : List Es.Sea) (p : Es.Sea → Bool) (w : World) (hv : AtW Es.ES w v l)
    (hp:∀ x∈l,∀ V,Below w.heap.size w V->Calls Tryz.prog 44 #[Es.VS x] V fun e w'=>e = .returned (.bool (p x))/\Below V.heap.size V w') :
    Calls Tryz.prog 69 #[v,.func (.func 44) #[] #[]] w fun e w'=>e = .returned (.int .i64 (atI p l))/\Below w.heap.size w w':=by
  obtain ⟨ao,cap,rfl,hm,hx⟩:=hv.open
  clear hv
  unfold maxLen at hm
  obtain ⟨n,hn⟩:∃ n,l.length = n:=⟨_,rfl⟩
  rw [hn] at hm ⊢
  have HN:Hid (l.length = n):=hn
  have HX:Hid (∀ i x,l[i]? = some x->∃ b off,ao = some ⟨b,off,none⟩/\True/\b < w.heap.size/\∀ k u,(Es.ES.cells x)[k]? = some u->w.cell? ⟨b,off + (i * Es.ES.sz + k),none⟩ = some u):=hx
  have HPR:Hid (∀ x∈l,∀ V,Below w.heap.size w V->Calls Tryz.prog 44 #[Es.VS x] V fun e w'=>e = .returned (.bool (p x))/\Below V.heap.size V w'):=hp
  clear hn hx hp
  go_enter Tryz.func69,Tryz.ntmps69
  go_wp2
  go_loopw [8] (fun i wr=>∃ k:Nat,k<=n/\i = .int .i64 k/\Hid (∀ j y,j < k->l[j]? = some y->p y = false)/\Hid (Below w.heap.size w wr)) (fun i _=>n - (intOf i).toNat)
  case atStart=>exact ⟨0,Nat.zero_le _,rfl,fun j y hj=>by omega,Below.refl _ _⟩
  case round =>
    obtain ⟨k,hk,rfl,HP,HB⟩:=hrel
    by_cases hlt:k < n
    · obtain ⟨x, hxk⟩ : ∃ x, l[k]? = some x := ⟨_, List.getElem?_eq_getElem (by rw [HN.out]; exact hlt)⟩
      have HXK:Hid (l[k]? = some x):=hxk
      obtain ⟨b2,off,rfl,-,hB,hcx⟩:=HX.out k x hxk
      have a:=fun j u hj=>(HB.out.cell (p:=⟨b2,off + (k * Es.ES.sz + j),none⟩) hB).trans (hcx j u hj)
      have c0:wr.cell? ⟨b2,off + k * 3,none⟩ = some (.int .i64 x.1):=a 0 _ rfl
      have c1:wr.cell? ⟨b2,off + k * 3 + 1,none⟩ = some (.int .i64 x.2.1):=a 1 _ rfl
      have c2:wr.cell? ⟨b2,off + k * 3 + 2,none⟩ = some (.string x.2.2):=a 2 _ rfl
      have hsz:=HB.out.size
      have HC:=HPR.out x (List.mem_of_getElem? hxk)
      clear a hcx hxk
      have hlt':(k:Int) < (n:Int):=by omega
      obtain ⟨r,hr⟩:∃ r,p x = r:=⟨_,rfl⟩
      go_wp2_with fail
      refine (HC _ HB.out).mono ?_
      rintro e w1 ⟨rfl,hb1⟩
      rw [hr]
      have HB1:Hid (Below w.heap.size w w1):=HB.out.trans (hb1.mono hsz)
      clear hb1
      cases r with
      | true =>
        have HA:Hid (atI p l = k):=atI_hit HXK.out hr HP.out
        clear hr HC
        go_wp2
        go_ret
        rw [HA.out]
        exact ⟨rfl,HB1.out⟩
      | false =>
        have HP2:Hid (∀ j y,j < k + 1->l[j]? = some y->p y = false):=fun j y hj hy=>by
          by_cases e:j = k
          · subst e
            rw [HXK.out] at hy
            cases hy
            exact hr
          · exact HP.out j y (by omega) hy
        clear hr HC
        go_wp2
        go_roundw
        case rel=>exact ⟨k + 1,by omega,by go_num,HP2,HB1⟩
        case measure=>simp [intOf];omega
    · obtain rfl : k = n := by omega
      have HA:Hid (atI p l = -1):=atI_miss fun j y hj=>HP.out j y (by rw [← HN.out];exact hj)
      go_wp2
      go_ret
      rw [HA.out]
      exact ⟨rfl,HB.out⟩
set_option maxHeartbeats 1000000 in
theorem conSq (v:Value) (l:List Es.Sea) (p:Es.Sea->Bool) (w:World) (hv:AtW Es.ES w v l)
    (hp:∀ x∈l,∀ V,Below w.heap.size w V->Calls Tryz.prog 44 #[Es.VS x] V fun e w'=>e = .returned (.bool (p x))/\Below V.heap.size V w') :
    Calls Tryz.prog 43 #[v,.func (.func 44) #[] #[]] w fun e w'=>e = .returned (.bool (l.any p))/\Below w.heap.size w w':=by
  have HC:Hid (∀ V,w = V->Calls Tryz.prog 69 #[v,.func (.func 44) #[] #[]] V fun e w'=>e = .returned (.int .i64 (atI p l))/\Below w.heap.size w w'):=fun V h=>by subst h;exact idxSq v l p w hv hp
  obtain ⟨ao,cap,rfl,hm,hx⟩:=hv.open
  obtain ⟨r,hr⟩:∃ r,atI p l = r:=⟨_,rfl⟩
  rw [← atI_any,hr]
  rw [hr] at HC
  obtain ⟨n,hn⟩:∃ n,l.length = n:=⟨_,rfl⟩
  rw [hn] at HC ⊢
  clear hx hv hp hr hm hn
  go_enter Tryz.func43,Tryz.ntmps43
  go_wp2_with fail
  refine (HC.out _ rfl).mono ?_
  rintro e w1 ⟨rfl,hb1⟩
  have HB1:Hid (Below w.heap.size w w1):=hb1
  clear hb1 HC
  go_wp2
  go_ret
  exact ⟨rfl,HB1.out⟩
set_option maxHeartbeats 4000000 in
theorem mcheck_any {S : Nat → Prop} (vi vo vz : Value) (dn : Int) (L : List Rw) (O : List Os.Opn) (Z : List Es.Sea) (w : World) (hv : TabAt S w vi L) (hok : Sp.okN L) (ho : AtW Os.EO w vo O) (hz : AtW Es.ES w vz Z) :
    Calls Tryz.prog 21 #[VSt vi vo vz dn] w fun e w'=>e = .returned (.int .i64 (if Sh.whole (pl L) O Z dn = true then 0 else 4))/\Below w.heap.size w w':=by
  have HV:Hid (TabAt S w vi L):=hv
  have HO:Hid (AtW Os.EO w vo O):=ho
  have HZ:Hid (AtW Es.ES w vz Z):=hz
  have HOK:Hid (Sp.okN L):=hok
  obtain ⟨p,c,rfl,-,-⟩:=hv.open
  obtain ⟨q,d,rfl,-,-⟩:=ho.open
  obtain ⟨u,z,rfl,-,-⟩:=hz.open
  obtain ⟨n,hn'⟩:∃ n,L.length = n:=⟨_,rfl⟩
  obtain ⟨m,hm'⟩:∃ m,O.length = m:=⟨_,rfl⟩
  obtain ⟨k,hk'⟩:∃ m,Z.length = m:=⟨_,rfl⟩
  rw [hn'] at HV ⊢
  rw [hm'] at HO ⊢
  rw [hk'] at HZ ⊢
  obtain ⟨W,hW⟩:∃ W,W = w.alloc (BSt (.slice p n c) (.slice q m d) (.slice u k z) dn):=⟨_,rfl⟩
  have HB0:Hid (Below w.heap.size w W):=by show Below w.heap.size w W;rw [hW];exact (Below.refl _ w).alloc (Nat.le_refl _) _
  have HA0:Hid (W.heap[w.heap.size]? = some (BSt (.slice p n c) (.slice q m d) (.slice u k z) dn)):=by show W.heap[w.heap.size]? = _;rw [hW];exact heap_alloc_new _ _
  obtain ⟨r1,hr1⟩:∃ r,Nf.right (pl L) O dn = r:=⟨_,rfl⟩
  obtain ⟨r2,hr2⟩:∃ r,Es.Se.ok Z = r:=⟨_,rfl⟩
  obtain ⟨r3,hr3⟩:∃ r,Z.any Sh.noRep = r:=⟨_,rfl⟩
  have hE:(if Sh.whole (pl L) O Z dn = true then (0:Int) else 4) = if (r1 && (r2 && !r3)) = true then 0 else 4:=by
    unfold Sh.whole
    rw [hr1,hr2,hr3]
  rw [hE]
  have HR:Hid (Nf.right (pl L) O dn = r1/\Es.Se.ok Z = r2/\Z.any Sh.noRep = r3):=⟨hr1,hr2,hr3⟩
  obtain ⟨a0,a1,a2,a3⟩:=st_of HA0.out
  have hla:=(Array.getElem?_eq_some_iff.1 HA0.out).1
  clear hv ho hz hok hn' hm' hk' hr1 hr2 hr3 hE
  go_enter Tryz.func21,Tryz.ntmps21
  go_wp2_with fail
  rw [← hW]
  clear hW a0 a1 a2 a3
  refine (ncheck_any _ _ u k z dn L O _ (HV.out.up HB0.out) HOK.out (HO.out.up HB0.out)).mono ?_
  rintro e w1 ⟨rfl,hb1⟩
  have HB1:Hid (Below w.heap.size w w1):=HB0.out.trans (hb1.mono HB0.out.size)
  have HA1:Hid (w1.heap[w.heap.size]? = some (BSt (.slice p n c) (.slice q m d) (.slice u k z) dn)):=(hb1.block _ hla).trans HA0.out
  clear hb1
  cases r1 with
  | false =>
    have hc:Nf.chk (pl L) O dn = 4:=by unfold Nf.chk;rw [HR.out.1];rfl
    rw [hc]
    clear hc
    go_wp2
    go_ret
    exact ⟨rfl,HB1.out⟩
  | true =>
    have hc:Nf.chk (pl L) O dn = 0:=by unfold Nf.chk;rw [HR.out.1];rfl
    rw [hc]
    clear hc
    obtain ⟨a0,a1,a2,a3⟩:=st_of HA1.out
    have hl1:=(Array.getElem?_eq_some_iff.1 HA1.out).1
    go_wp2_with fail
    clear a0 a1 a2 a3
    refine (Es.check_any _ Z _ (HZ.out.up HB1.out)).mono ?_
    rintro e w2 ⟨rfl,hb2⟩
    rw [HR.out.2.1]
    have HB2:Hid (Below w.heap.size w w2):=HB1.out.trans (hb2.mono HB1.out.size)
    have HA2:Hid (w2.heap[w.heap.size]? = some (BSt (.slice p n c) (.slice q m d) (.slice u k z) dn)):=(hb2.block _ hl1).trans HA1.out
    clear hb2
    cases r2 with
    | false =>
      rw [if_neg (by decide)]
      go_wp2
      go_ret
      exact ⟨rfl,HB2.out⟩
    | true =>
      rw [if_pos rfl]
      have HSM:Hid (∀ x∈Z,x.2.2.size<=1048576):=fun x hx=>by
        have h:=((Es.Se.ok_iff Z).1 HR.out.2.1).2.1 x hx
        have:=h.2.2
        omega
      obtain ⟨a0,a1,a2,a3⟩:=st_of HA2.out
      go_wp2_with fail
      clear a0 a1 a2 a3
      refine (conSq _ Z Sh.noRep _ (HZ.out.up HB2.out) (fun x hx V _=>noReply_any x V (HSM.out x hx))).mono ?_
      rintro e w3 ⟨rfl,hb3⟩
      rw [HR.out.2.2]
      have HB3:Hid (Below w.heap.size w w3):=HB2.out.trans (hb3.mono HB2.out.size)
      clear hb3
      cases r3 with
      | false =>
        go_wp2
        all_goals (go_ret;exact ⟨by simp,HB3.out⟩)
      | true =>
        go_wp2
        all_goals (go_ret;exact ⟨by simp,HB3.out⟩)
end Go.Proofs.YtggoccfddnpelaaGreat
