/- RBase, as one. -/
import Derived.Test.YtggoccfddnpelaaGreatR18
namespace Go.Proofs.YtggoccfddnpelaaGreat.Ks.Rs
open Go.ChangeShapes Go.WideShapes Go.ChangeAt Go.RowKit Go.Deep
set_option maxRecDepth 100000
open Go.Proofs.YtggoccfddnpelaaGreat.Ks.Ak
abbrev VR (r:Rep) (v:Value):Value:=.agg #[.int .i64 r.e,.int .i64 r.no,.int .i64 r.gen,.int .i64 r.k,.int .i64 r.l,.int .i64 r.s,.int .i64 r.t,.string r.data,v,.int .i64 r.n]
abbrev BR (r:Rep) (v:Value):Obj:=.cells #[.int .i64 r.e,.int .i64 r.no,.int .i64 r.gen,.int .i64 r.k,.int .i64 r.l,.int .i64 r.s,.int .i64 r.t,.string r.data,v,.int .i64 r.n] 116
abbrev VE (x:Ent):Value:=.agg #[.string x.1,.int .i64 x.2.1,.int .i64 x.2.2.1,.int .i64 x.2.2.2]
abbrev BE (x:Ent):Obj:=.cells #[.string x.1,.int .i64 x.2.1,.int .i64 x.2.2.1,.int .i64 x.2.2.2] 91
theorem ten_of {w:World} {b:Nat} {r:Rep} {v:Value} (h:w.heap[b]? = some (BR r v)):w.cell? ⟨b,0,none⟩ = some (.int .i64 r.e)/\w.cell? ⟨b,1,none⟩ = some (.int .i64 r.no)/\w.cell? ⟨b,2,none⟩ = some (.int .i64 r.gen)/\w.cell? ⟨b,3,none⟩ = some (.int .i64 r.k)/\w.cell? ⟨b,4,none⟩ = some (.int .i64 r.l)/\w.cell? ⟨b,5,none⟩ = some (.int .i64 r.s)/\w.cell? ⟨b,6,none⟩ = some (.int .i64 r.t)/\w.cell? ⟨b,7,none⟩ = some (.string r.data)/\w.cell? ⟨b,8,none⟩ = some v/\w.cell? ⟨b,9,none⟩ = some (.int .i64 r.n):=by
  refine ⟨?_,?_,?_,?_,?_,?_,?_,?_,?_,?_⟩ <;> simp [World.cell?,h]
theorem ent_of {w:World} {b:Nat} {x:Ent} (h:w.heap[b]? = some (BE x)):w.cell? ⟨b,0,none⟩ = some (.string x.1)/\w.cell? ⟨b,1,none⟩ = some (.int .i64 x.2.1)/\w.cell? ⟨b,2,none⟩ = some (.int .i64 x.2.2.1)/\w.cell? ⟨b,3,none⟩ = some (.int .i64 x.2.2.2):=by
  refine ⟨?_,?_,?_,?_⟩ <;> simp [World.cell?,h]
theorem _root_.Go.Proofs.YtggoccfddnpelaaGreat.At.al {α:Type} {E:Enc α} {S:Nat->Prop} {w:World} {v:Value} {l:List α} (h:At E S w v l) (o:Obj):At E S (w.alloc o) v l:=h.up ((Below.refl _ _).alloc (Nat.le_refl _) _)
theorem four_at {w wr:World} {b off k:Nat} {x:Ent} {B:Nat} (hc:∀ j u,(EE.cells x)[j]? = some u->w.cell? ⟨b,off + (k * EE.sz + j),none⟩ = some u) (hb:Below B w wr) (hB:b < B) :
    wr.cell? ⟨b,off + k * 4,none⟩ = some (.string x.1)/\wr.cell? ⟨b,off + k * 4 + 1,none⟩ = some (.int .i64 x.2.1)/\wr.cell? ⟨b,off + k * 4 + 2,none⟩ = some (.int .i64 x.2.2.1)/\wr.cell? ⟨b,off + k * 4 + 3,none⟩ = some (.int .i64 x.2.2.2):=by
  have a:=fun j u hj=>(hb.cell (p:=⟨b,off + (k * EE.sz + j),none⟩) hB).trans (hc j u hj)
  exact ⟨a 0 _ rfl,a 1 _ rfl,a 2 _ rfl,a 3 _ rfl⟩
theorem within_is (lo x hi:Int) (b:Bool) (w:World) (h:Hid (decide (lo<=x/\x<=hi) = b)):Calls Tryz.prog 153 #[.int .i64 lo,.int .i64 x,.int .i64 hi] w fun e w'=>e = .returned (.bool b)/\w' = w:=by
  rw [← h.out]
  clear h
  by_cases h1:lo<=x
  · by_cases h2 : x ≤ hi
    · rw [decide_eq_true (show lo ≤ x ∧ x ≤ hi from ⟨h1, h2⟩)]
      go_enter Tryz.func153,Tryz.ntmps153
      go_wp2
      go_ret
      exact ⟨rfl,rfl⟩
    · rw [decide_eq_false (show ¬ (lo ≤ x ∧ x ≤ hi) from fun h => h2 h.2)]
      go_enter Tryz.func153,Tryz.ntmps153
      go_wp2
      go_ret
      exact ⟨rfl,rfl⟩
  · rw [decide_eq_false (show ¬ (lo ≤ x ∧ x ≤ hi) from fun h => h1 h.1)]
    go_enter Tryz.func153,Tryz.ntmps153
    go_wp2
    go_ret
    exact ⟨rfl,rfl⟩
theorem rh_is (no gen:Int) (b:Bool) (w:World) (h:Hid (hok no gen = b)):Calls Tryz.prog 154 #[VH no gen] w fun e w'=>e = .returned (.bool b)/\w' = w.alloc (BH no gen):=by
  by_cases h1:0<=no/\no<=255
  · have H1 : Hid (decide (0 ≤ no ∧ no ≤ 255) = true) := decide_eq_true h1
    have H2:Hid (decide (0<=gen/\gen<=1099511627776) = b):=by
      show decide (0<=gen/\gen<=1099511627776) = b
      rw [← h.out];unfold hok hokP;simp [h1]
    clear h h1
    go_enter Tryz.func154,Tryz.ntmps154
    go_wp2_with fail
    refine (within_is _ _ _ _ _ H1).mono ?_
    rintro e w' ⟨rfl,rfl⟩
    go_wp2_with fail
    refine (within_is _ _ _ _ _ H2).mono ?_
    rintro e w' ⟨rfl,rfl⟩
    go_wp2
    go_ret
    exact ⟨rfl,rfl⟩
  · have H1 : Hid (decide (0 ≤ no ∧ no ≤ 255) = false) := decide_eq_false h1
    have H2:Hid (b = false):=by show b = false;rw [← h.out];unfold hok hokP;exact decide_eq_false fun hh=>h1 hh.1
    clear h h1
    go_enter Tryz.func154,Tryz.ntmps154
    go_wp2_with fail
    refine (within_is _ _ _ _ _ H1).mono ?_
    rintro e w' ⟨rfl,rfl⟩
    go_wp2
    go_ret
    rw [H2.out]
    exact ⟨rfl,rfl⟩
set_option maxHeartbeats 1000000 in
theorem rhandle_is (no gen : Int) (b : Bool) (w : World) (h : Hid (hok no gen = b)) : Calls Tryz.prog 145 #[VH no gen] w fun e w' => e = .returned (.bool b) ∧ w' = w.alloc (BH no gen) := by
  by_cases h1:0<=no
  · by_cases h2 : no ≤ 255
    · by_cases h3 : 0 ≤ gen
      · by_cases h4 : gen ≤ 1099511627776
        all_goals
          have H:Hid (b = decide (gen<=1099511627776)):=by show b = _;rw [← h.out];unfold hok hokP;simp [h1,h2,h3]
          clear h
          go_enter Tryz.func145,Tryz.ntmps145
          go_wp2
          go_ret
          rw [H.out]
          simp [h4]
      · have H : Hid (b = false) := by show b = false; rw [← h.out]; unfold hok hokP; exact decide_eq_false fun hh => h3 hh.2.1
        clear h
        go_enter Tryz.func145,Tryz.ntmps145
        go_wp2
        go_ret
        rw [H.out]
        exact ⟨rfl,rfl⟩
    · have H : Hid (b = false) := by show b = false; rw [← h.out]; unfold hok hokP; exact decide_eq_false fun hh => h2 hh.1.2
      clear h
      go_enter Tryz.func145,Tryz.ntmps145
      go_wp2
      go_ret
      rw [H.out]
      exact ⟨rfl,rfl⟩
  · have H : Hid (b = false) := by show b = false; rw [← h.out]; unfold hok hokP; exact decide_eq_false fun hh => h1 hh.1.1
    clear h
    go_enter Tryz.func145,Tryz.ntmps145
    go_wp2
    go_ret
    rw [H.out]
    exact ⟨rfl,rfl⟩
theorem rname_b (s:ByteArray) (w:World) (hm:s.size<=maxLen):Calls Tryz.prog 143 #[.string s] w fun e w'=>e = .returned (.int .i64 (Nm.err s))/\Below w.heap.size w w' :=
  (rname_any s w hm).mono fun _ _ h=>⟨h.1,by rw [h.2];exact Below.refl _ _⟩
theorem acheck_is (k l s t y:Int) (w:World) (h:Hid ((if At.right k l s t then (0:Int) else 70) = y)):Calls Tryz.prog 71 #[VA k l s t] w fun e w'=>e = .returned (.int .i64 y)/\w' = w.alloc (BA k l s t):=by
  rw [← h.out]
  by_cases hr:At.right k l s t = true
  · rw [if_pos hr];exact acheck_yes k l s t w hr
  · rw [if_neg hr];exact acheck_no k l s t w (by simpa using hr)
theorem aright_is (k l s t:Int) (b:Bool) (w:World) (h:Hid (At.right k l s t = b)):Calls Tryz.prog 55 #[VA k l s t] w fun e w'=>e = .returned (.bool b)/\w' = w.alloc (BA k l s t):=by
  rw [← h.out];exact aright_any k l s t w
namespace Re
theorem drop_at {l:List Ent} {k:Nat} {x:Ent} (h:l[k]? = some x):l.drop k = x :: l.drop (k + 1):=by
  obtain ⟨hk,rfl⟩:=List.getElem?_eq_some_iff.1 h
  exact List.drop_eq_getElem_cons hk
end Re
set_option maxHeartbeats 2000000 in
theorem rightEntries_any (v : Value) (l : List Ent) (w : World) (hv : AtW EE w v l) (hs : ∀ x ∈ l, x.1.size ≤ maxLen) : Calls Tryz.prog 155 #[v] w fun e w' => e = .returned (.bool (Re.entsB l)) ∧ Below w.heap.size w w' := by
  obtain ⟨y,hy⟩:∃ y,Re.entsB l = y:=⟨_,rfl⟩
  have HY:Hid (Re.entsB l = y):=hy
  rw [hy]
  clear hy
  obtain ⟨ao,cap,rfl,hm,hx⟩:=hv.open
  clear hv
  unfold maxLen at hm
  obtain ⟨n,hn⟩:∃ n,l.length = n:=⟨_,rfl⟩
  rw [hn] at hm ⊢
  have HN:Hid (l.length = n):=hn
  have HS:Hid (∀ x∈l,x.1.size<=maxLen):=hs
  have HX:Hid (∀ i x,l[i]? = some x->∃ b off,ao = some ⟨b,off,none⟩/\True/\b < w.heap.size/\∀ k u,(EE.cells x)[k]? = some u->w.cell? ⟨b,off + (i * EE.sz + k),none⟩ = some u):=hx
  clear hn hx hs
  by_cases h64:64 < n
  · have H : Hid (y = false) := by show y = false; rw [← HY.out]; exact Re.entsB_no.2 (by rw [HN.out]; omega)
    have h64':(64:Int) < (n:Int):=by omega
    go_enter Tryz.func155,Tryz.ntmps155
    go_wp2
    go_ret
    rw [H.out]
    exact ⟨rfl,Below.refl _ _⟩
  · have h64' : ¬ (64 : Int) < (n : Int) := by omega
    have HE:Hid (y = true ↔ Re.entsP 0 l):=by show _ ↔ _;rw [← HY.out,Re.entsB_iff,HN.out];exact ⟨fun h=>h.2,fun h=>⟨by omega,h⟩⟩
    go_enter Tryz.func155,Tryz.ntmps155
    go_wp2
    go_loopw [3,11] (fun c i wr=>∃ (k:Nat) (last:Int),k<=n/\i = .int .i64 k/\c = .int .i64 last/\(0<=last/\last<=1099511627776)/\Hid (Re.entsP 0 l ↔ Re.entsP last (l.drop k))/\Hid (Below w.heap.size w wr)) (fun _ i _=>n - (intOf i).toNat)
    case atStart=>exact ⟨0,0,Nat.zero_le _,rfl,rfl,by omega,by show _ ↔ _;rw [List.drop_zero],Below.refl _ _⟩
    case round =>
      obtain ⟨k,last,hk,rfl,rfl,hlast,HP,HB⟩:=hrel
      have hsz:=HB.out.size
      by_cases hlt:k < n
      · obtain ⟨x, hxk⟩ : ∃ x, l[k]? = some x := ⟨_, List.getElem?_eq_getElem (by rw [HN.out]; exact hlt)⟩
        have HD:Hid (l.drop k = x :: l.drop (k + 1)):=Re.drop_at hxk
        have HSX:Hid (x.1.size<=maxLen):=HS.out x (List.mem_of_getElem? hxk)
        obtain ⟨b,off,rfl,-,hB,hcx⟩:=HX.out k x hxk
        obtain ⟨c0,c1,c2,c3⟩:=four_at hcx HB.out hB
        clear hcx hxk
        obtain ⟨nm,ck,no,gen⟩:=x
        simp only at c0 c1 c2 c3
        have hlt':(k:Int) < (n:Int):=by omega
        by_cases q1:last + 1<=ck/\ck<=1099511627776
        case neg =>
          have H1:Hid (decide (last + 1<=ck/\ck<=1099511627776) = false):=decide_eq_false q1
          have H:Hid (y = false):=by
            show y = false
            rw [Bool.eq_false_iff]
            intro hy
            have:=HP.out.1 (HE.out.1 hy)
            rw [HD.out] at this
            exact q1 this.1.1
          clear q1
          go_wp2_with fail
          refine (within_is _ _ _ _ _ H1).mono ?_
          rintro e w' ⟨rfl,rfl⟩
          go_wp2
          go_ret
          rw [H.out]
          exact ⟨rfl,HB.out.alloc hsz _⟩
        have H1:Hid (decide (last + 1<=ck/\ck<=1099511627776) = true):=decide_eq_true q1
        rcases Nm.err_or nm with ⟨he,hgood⟩ | ⟨he,hgood⟩
        case inr =>
          have HN1:Hid (Nm.err nm = 409):=he
          have H:Hid (y = false):=by
            show y = false
            rw [Bool.eq_false_iff]
            intro hy
            have:=HP.out.1 (HE.out.1 hy)
            rw [HD.out] at this
            exact hgood this.1.2.1
          clear he hgood
          go_wp2_with fail
          refine (within_is _ _ _ _ _ H1).mono ?_
          rintro e w' ⟨rfl,rfl⟩
          go_wp2_with fail
          refine (name_any nm _ HSX.out).mono ?_
          rintro e w2 ⟨rfl,hb2⟩
          rw [HN1.out]
          go_wp2
          go_ret
          rw [H.out]
          exact ⟨rfl,(HB.out.alloc hsz _).trans (hb2.mono (by simp;omega))⟩
        have HN1:Hid (Nm.err nm = 0):=he
        have HA1:Hid ((wr.alloc (BE (nm,ck,no,gen))).heap[wr.heap.size]? = some (BE (nm,ck,no,gen))):=heap_alloc_new wr _
        have HB1:Hid (Below w.heap.size w (wr.alloc (BE (nm,ck,no,gen)))):=HB.out.alloc hsz _
        by_cases q3:hokP no gen
        case neg =>
          have H3:Hid (hok no gen = false):=decide_eq_false q3
          have H:Hid (y = false):=by
            show y = false
            rw [Bool.eq_false_iff]
            intro hy
            have:=HP.out.1 (HE.out.1 hy)
            rw [HD.out] at this
            exact q3 this.1.2.2
          clear he hgood q3
          go_wp2_with fail
          refine (within_is _ _ _ _ _ H1).mono ?_
          rintro e w' ⟨rfl,rfl⟩
          go_wp2_with fail
          refine (name_any nm _ HSX.out).mono ?_
          rintro e w2 ⟨rfl,hb2⟩
          rw [HN1.out]
          obtain ⟨d0,d1,d2,d3⟩:=ent_of (block_step HA1.out hb2)
          have HB2:Hid (Below w.heap.size w w2):=HB1.out.trans (hb2.mono HB1.out.size)
          clear hb2
          go_wp2_with fail
          refine (rh_is _ _ _ _ H3).mono ?_
          rintro e w3 ⟨rfl,rfl⟩
          go_wp2
          go_ret
          rw [H.out]
          exact ⟨rfl,HB2.out.alloc HB2.out.size _⟩
        have H3:Hid (hok no gen = true):=decide_eq_true q3
        have HP2:Hid (Re.entsP 0 l ↔ Re.entsP ck (l.drop (k + 1))):=by
          show _ ↔ _
          rw [HP.out,HD.out]
          exact ⟨fun h=>h.2,fun h=>⟨⟨q1,hgood,q3⟩,h⟩⟩
        have hck:0<=ck/\ck<=1099511627776:=by omega
        clear he hgood q3 q1
        go_wp2_with fail
        refine (within_is _ _ _ _ _ H1).mono ?_
        rintro e w' ⟨rfl,rfl⟩
        go_wp2_with fail
        refine (name_any nm _ HSX.out).mono ?_
        rintro e w2 ⟨rfl,hb2⟩
        rw [HN1.out]
        obtain ⟨d0,d1,d2,d3⟩:=ent_of (block_step HA1.out hb2)
        have HB2:Hid (Below w.heap.size w w2):=HB1.out.trans (hb2.mono HB1.out.size)
        have hl2:wr.heap.size < w2.heap.size:=block_lt (block_step HA1.out hb2)
        clear hb2
        go_wp2_with fail
        refine (rh_is _ _ _ _ H3).mono ?_
        rintro e w3 ⟨rfl,rfl⟩
        go_wp2
        go_roundw
        case rel=>exact ⟨k + 1,ck,by omega,by go_num,rfl,hck,HP2.out,HB2.out.alloc HB2.out.size _⟩
        case measure=>simp [intOf];omega
      · obtain rfl : k = n := by omega
        have H:Hid (y = true):=by
          refine HE.out.2 (HP.out.2 ?_)
          rw [List.drop_of_length_le (by rw [HN.out];exact Nat.le_refl _)]
          trivial
        go_wp2
        go_ret
        rw [H.out]
        exact ⟨rfl,HB.out⟩
set_option maxHeartbeats 4000000 in
theorem rright_loop (e no0 gen0 k0 l0 s0 t0 : Int) (data : ByteArray) (l : List Ent) (n0 : Int) (ao : Option Addr) (n cap : Nat) (w : World) (y : Bool) (hm : n ≤ 2 ^ 63 - 1) (HN : Hid (l.length = n)) (HV : Hid (AtW EE w (.slice ao n cap) l)) (HS : Hid (∀ x ∈ l, x.1.size ≤ maxLen)) (HE : Hid (y = true ↔ Re.entsP 0 l))
    (h0:0<=e) (h1:e<=65535) (H2:Hid (hok no0 gen0 = true)) (H3:Hid (At.right k0 l0 s0 t0 = true)) (e4:(data.size:Int)<=512) (e5:(n:Int)<=64) (h6:0<=n0) (h7:n0<=1099511627776) :
    Calls Tryz.prog 112 #[VR ⟨e,no0,gen0,k0,l0,s0,t0,data,l,n0⟩ (.slice ao n cap)] w fun e w'=>e = .returned (.bool y)/\Below w.heap.size w w':=by
  have HX:Hid (∀ i x,l[i]? = some x->∃ b off,ao = some ⟨b,off,none⟩/\True/\b < w.heap.size/\∀ k u,(EE.cells x)[k]? = some u->w.cell? ⟨b,off + (i * EE.sz + k),none⟩ = some u):=by
    obtain ⟨ao',cap',he,_,hx⟩:=HV.out.open
    simp only [Value.slice.injEq] at he
    obtain ⟨rfl,_,rfl⟩:=he
    exact hx
  go_enter Tryz.func112,Tryz.ntmps112
  go_wp2_with (first
    | (go_at_call 145;refine (rhandle_is _ _ _ _ (by assumption)).mono ?_;rintro e w' ⟨rfl,rfl⟩)
    | (go_at_call 55;refine (aright_is _ _ _ _ _ _ (by assumption)).mono ?_;rintro e w' ⟨rfl,rfl⟩))
  go_loopw [3,51] (fun c i wr=>∃ (k:Nat) (last:Int),k<=n/\i = .int .i64 k/\c = .int .i64 last/\(0<=last/\last<=1099511627776)/\Hid (Re.entsP 0 l ↔ Re.entsP last (l.drop k))/\Hid (Below w.heap.size w wr)) (fun _ i _=>n - (intOf i).toNat)
  case atStart=>exact ⟨0,0,Nat.zero_le _,rfl,rfl,by omega,(by show _ ↔ _;rw [List.drop_zero]),(((Below.refl _ _).alloc (Nat.le_refl _) _).alloc (by simp) _).alloc (by simp;omega) _⟩
  case round =>
    obtain ⟨k,last,hk,rfl,rfl,hlast,HP,HB⟩:=hrel
    have hsz:=HB.out.size
    by_cases hlt:k < n
    · obtain ⟨x, hxk⟩ : ∃ x, l[k]? = some x := ⟨_, List.getElem?_eq_getElem (by rw [HN.out]; exact hlt)⟩
      have HD:Hid (l.drop k = x :: l.drop (k + 1)):=Re.drop_at hxk
      have HSX:Hid (x.1.size<=maxLen):=HS.out x (List.mem_of_getElem? hxk)
      obtain ⟨b,off,rfl,-,hB,hcx⟩:=HX.out k x hxk
      obtain ⟨c0,c1,c2,c3⟩:=four_at hcx HB.out hB
      clear hcx hxk
      obtain ⟨nm,ck,no,gen⟩:=x
      simp only at c0 c1 c2 c3
      have hlt':(k:Int) < (n:Int):=by omega
      by_cases q1:ck<=last
      · have H : Hid (y = false) := by
          show y = false
          rw [Bool.eq_false_iff]
          intro hy
          have:=HP.out.1 (HE.out.1 hy)
          rw [HD.out] at this
          exact (by have h9:=this.1.1.1;simp only at h9;omega)
        go_wp2
        go_ret
        rw [H.out]
        exact ⟨rfl,HB.out.alloc hsz _⟩
      by_cases q2:1099511627776 < ck
      · have H : Hid (y = false) := by
          show y = false
          rw [Bool.eq_false_iff]
          intro hy
          have:=HP.out.1 (HE.out.1 hy)
          rw [HD.out] at this
          exact (by have h9:=this.1.1.2;simp only at h9;omega)
        go_wp2
        go_ret
        rw [H.out]
        exact ⟨rfl,HB.out.alloc hsz _⟩
      rcases Nm.err_or nm with ⟨he,hgood⟩ | ⟨he,hgood⟩
      case inr =>
        have HN1:Hid (Nm.err nm = 409):=he
        have H:Hid (y = false):=by
          show y = false
          rw [Bool.eq_false_iff]
          intro hy
          have:=HP.out.1 (HE.out.1 hy)
          rw [HD.out] at this
          exact hgood this.1.2.1
        clear he hgood
        go_wp2_with fail
        refine (rname_b nm _ HSX.out).mono ?_
        rintro e w2 ⟨rfl,hb2⟩
        rw [HN1.out]
        go_wp2
        go_ret
        rw [H.out]
        exact ⟨rfl,(HB.out.alloc hsz _).trans (hb2.mono (by simp;omega))⟩
      have HN1:Hid (Nm.err nm = 0):=he
      have HA1:Hid ((wr.alloc (BE (nm,ck,no,gen))).heap[wr.heap.size]? = some (BE (nm,ck,no,gen))):=heap_alloc_new wr _
      have HB1:Hid (Below w.heap.size w (wr.alloc (BE (nm,ck,no,gen)))):=HB.out.alloc hsz _
      by_cases q3:hokP no gen
      case neg =>
        have H3:Hid (hok no gen = false):=decide_eq_false q3
        have H:Hid (y = false):=by
          show y = false
          rw [Bool.eq_false_iff]
          intro hy
          have:=HP.out.1 (HE.out.1 hy)
          rw [HD.out] at this
          exact q3 this.1.2.2
        clear he hgood q3
        go_wp2_with fail
        refine (rname_b nm _ HSX.out).mono ?_
        rintro e w2 ⟨rfl,hb2⟩
        rw [HN1.out]
        obtain ⟨d0,d1,d2,d3⟩:=ent_of (block_step HA1.out hb2)
        have HB2:Hid (Below w.heap.size w w2):=HB1.out.trans (hb2.mono HB1.out.size)
        clear hb2
        go_wp2_with fail
        refine (rhandle_is _ _ _ _ H3).mono ?_
        rintro e w3 ⟨rfl,rfl⟩
        go_wp2
        go_ret
        rw [H.out]
        exact ⟨rfl,HB2.out.alloc HB2.out.size _⟩
      have H3:Hid (hok no gen = true):=decide_eq_true q3
      have HP2:Hid (Re.entsP 0 l ↔ Re.entsP ck (l.drop (k + 1))):=by
        show _ ↔ _
        rw [HP.out,HD.out]
        exact ⟨fun h=>h.2,fun h=>⟨⟨⟨by simp only;omega,by simp only;omega⟩,hgood,q3⟩,h⟩⟩
      have hck:0<=ck/\ck<=1099511627776:=by omega
      clear he hgood q3
      go_wp2_with fail
      refine (rname_b nm _ HSX.out).mono ?_
      rintro e w2 ⟨rfl,hb2⟩
      rw [HN1.out]
      obtain ⟨d0,d1,d2,d3⟩:=ent_of (block_step HA1.out hb2)
      have HB2:Hid (Below w.heap.size w w2):=HB1.out.trans (hb2.mono HB1.out.size)
      have hl2:wr.heap.size < w2.heap.size:=block_lt (block_step HA1.out hb2)
      clear hb2
      go_wp2_with fail
      refine (rhandle_is _ _ _ _ H3).mono ?_
      rintro e w3 ⟨rfl,rfl⟩
      go_wp2
      go_roundw
      case rel=>exact ⟨k + 1,ck,by omega,by go_num,rfl,hck,HP2.out,HB2.out.alloc HB2.out.size _⟩
      case measure=>simp [intOf];omega
    · obtain rfl : k = n := by omega
      have H:Hid (y = true):=by
        refine HE.out.2 (HP.out.2 ?_)
        rw [List.drop_of_length_le (by rw [HN.out];exact Nat.le_refl _)]
        trivial
      go_wp2
      go_ret
      rw [H.out]
      exact ⟨rfl,HB.out⟩
set_option maxHeartbeats 8000000 in
theorem check_is (r : Rep) (v : Value) (w : World) (y : Int) (hv : AtW EE w v r.ents) (hs : ∀ x ∈ r.ents, x.1.size ≤ maxLen) (h : Hid ((if Re.right r then (0 : Int) else 4) = y)) : Calls Tryz.prog 140 #[VR r v] w fun e w' => e = .returned (.int .i64 y) ∧ Below w.heap.size w w' := by
  obtain ⟨e,no,gen,k,l,s,t,data,m,n⟩:=r
  have hv0:AtW EE w v m:=hv
  obtain ⟨ao,cap,rfl,hm,hx⟩:=hv0.open
  clear hv0
  unfold maxLen at hm
  obtain ⟨z,hz⟩:∃ z,m.length = z:=⟨_,rfl⟩
  rw [hz] at hm hv ⊢
  have HZ:Hid (m.length = z):=hz
  have HV:Hid (AtW EE w (.slice ao z cap) m):=hv
  have HS:Hid (∀ x∈m,x.1.size<=maxLen):=hs
  clear hz hv hs hx
  obtain ⟨W,hW⟩:∃ W,W = w.alloc (BR ⟨e,no,gen,k,l,s,t,data,m,n⟩ (.slice ao z cap)):=⟨_,rfl⟩
  clear W hW
  by_cases h0:0<=e/\e<=65535
  case neg =>
    have HY:Hid (y = 4):=by
      have hr:Re.right ⟨e,no,gen,k,l,s,t,data,m,n⟩ = false:=Re.wrong_iff.2 fun hh=>h0 hh.1
      show y = _
      rw [← h.out,hr];rfl
    have H0:Hid (decide (0<=e/\e<=65535) = false):=decide_eq_false h0
    clear h0
    clear h
    go_enter Tryz.func140,Tryz.ntmps140
    go_wp2_with (first
    | (go_at_call 153;refine (within_is _ _ _ _ _ (by assumption)).mono ?_;rintro e w' ⟨rfl,rfl⟩)
    | (go_at_call 154;refine (rh_is _ _ _ _ (by assumption)).mono ?_;rintro e w' ⟨rfl,rfl⟩)
    | (go_at_call 71;refine (acheck_is _ _ _ _ _ _ (by assumption)).mono ?_;rintro e w' ⟨rfl,rfl⟩))
    go_ret
    rw [HY.out]
    exact ⟨rfl,by first | exact (Below.refl _ _).alloc (Nat.le_refl _) _ | exact ((Below.refl _ _).alloc (Nat.le_refl _) _).alloc (by simp) _ | exact (((Below.refl _ _).alloc (Nat.le_refl _) _).alloc (by simp) _).alloc (by simp;omega) _ | exact HB5.out⟩
  case pos =>
    by_cases h1:hokP no gen
    case neg =>
      have HY:Hid (y = 4):=by
        have hr:Re.right ⟨e,no,gen,k,l,s,t,data,m,n⟩ = false:=Re.wrong_iff.2 fun hh=>h1 hh.2.1
        show y = _
        rw [← h.out,hr];rfl
      have H0:Hid (decide (0<=e/\e<=65535) = true):=decide_eq_true h0
      clear h0
      have H1:Hid (hok no gen = false):=decide_eq_false h1
      clear h1
      clear h
      go_enter Tryz.func140,Tryz.ntmps140
      go_wp2_with (first
    | (go_at_call 153;refine (within_is _ _ _ _ _ (by assumption)).mono ?_;rintro e w' ⟨rfl,rfl⟩)
    | (go_at_call 154;refine (rh_is _ _ _ _ (by assumption)).mono ?_;rintro e w' ⟨rfl,rfl⟩)
    | (go_at_call 71; refine (acheck_is _ _ _ _ _ _ (by assumption)).mono ?_; rintro e w' ⟨rfl, rfl⟩))
      go_ret
      rw [HY.out]
      exact ⟨rfl,by first | exact (Below.refl _ _).alloc (Nat.le_refl _) _ | exact ((Below.refl _ _).alloc (Nat.le_refl _) _).alloc (by simp) _ | exact (((Below.refl _ _).alloc (Nat.le_refl _) _).alloc (by simp) _).alloc (by simp;omega) _ | exact HB5.out⟩
    case pos =>
      by_cases h2:At.right k l s t = true
      case neg =>
        have HY:Hid (y = 4):=by
          have hr:Re.right ⟨e,no,gen,k,l,s,t,data,m,n⟩ = false:=Re.wrong_iff.2 fun hh=>h2 hh.2.2.1
          show y = _
          rw [← h.out,hr];rfl
        have H0:Hid (decide (0<=e/\e<=65535) = true):=decide_eq_true h0
        clear h0
        have H1:Hid (hok no gen = true):=decide_eq_true h1
        clear h1
        have H2:Hid ((if At.right k l s t then (0:Int) else 70) = 70):=by show (if At.right k l s t then (0:Int) else 70) = _;rw [if_neg h2]
        clear h2
        clear h
        go_enter Tryz.func140,Tryz.ntmps140
        go_wp2_with (first
    | (go_at_call 153;refine (within_is _ _ _ _ _ (by assumption)).mono ?_;rintro e w' ⟨rfl,rfl⟩)
    | (go_at_call 154;refine (rh_is _ _ _ _ (by assumption)).mono ?_;rintro e w' ⟨rfl,rfl⟩)
    | (go_at_call 71; refine (acheck_is _ _ _ _ _ _ (by assumption)).mono ?_; rintro e w' ⟨rfl, rfl⟩))
        go_ret
        rw [HY.out]
        exact ⟨rfl,by first | exact (Below.refl _ _).alloc (Nat.le_refl _) _ | exact ((Below.refl _ _).alloc (Nat.le_refl _) _).alloc (by simp) _ | exact (((Below.refl _ _).alloc (Nat.le_refl _) _).alloc (by simp) _).alloc (by simp;omega) _ | exact HB5.out⟩
      case pos =>
        by_cases h3:data.size<=512
        case neg =>
          have HY:Hid (y = 4):=by
            have hr:Re.right ⟨e,no,gen,k,l,s,t,data,m,n⟩ = false:=Re.wrong_iff.2 fun hh=>h3 hh.2.2.2.1
            show y = _
            rw [← h.out,hr];rfl
          have H0:Hid (decide (0<=e/\e<=65535) = true):=decide_eq_true h0
          clear h0
          have H1:Hid (hok no gen = true):=decide_eq_true h1
          clear h1
          have H2:Hid ((if At.right k l s t then (0:Int) else 70) = 0):=by show (if At.right k l s t then (0:Int) else 70) = _;rw [if_pos h2]
          clear h2
          have e3:¬ ((data.size:Int)<=512):=by omega
          clear h3
          clear h
          go_enter Tryz.func140,Tryz.ntmps140
          go_wp2_with (first
    | (go_at_call 153;refine (within_is _ _ _ _ _ (by assumption)).mono ?_;rintro e w' ⟨rfl,rfl⟩)
    | (go_at_call 154;refine (rh_is _ _ _ _ (by assumption)).mono ?_;rintro e w' ⟨rfl,rfl⟩)
    | (go_at_call 71;refine (acheck_is _ _ _ _ _ _ (by assumption)).mono ?_;rintro e w' ⟨rfl,rfl⟩))
          go_ret
          rw [HY.out]
          exact ⟨rfl,by first | exact (Below.refl _ _).alloc (Nat.le_refl _) _ | exact ((Below.refl _ _).alloc (Nat.le_refl _) _).alloc (by simp) _ | exact (((Below.refl _ _).alloc (Nat.le_refl _) _).alloc (by simp) _).alloc (by simp;omega) _ | exact HB5.out⟩
        case pos =>
          by_cases h4:m.length<=64/\Re.entsP 0 m
          case neg =>
            have HY:Hid (y = 4):=by
              have hr:Re.right ⟨e,no,gen,k,l,s,t,data,m,n⟩ = false:=Re.wrong_iff.2 fun hh=>h4 hh.2.2.2.2.1
              show y = _
              rw [← h.out,hr];rfl
            have H0:Hid (decide (0<=e/\e<=65535) = true):=decide_eq_true h0
            clear h0
            have H1:Hid (hok no gen = true):=decide_eq_true h1
            clear h1
            have H2:Hid ((if At.right k l s t then (0:Int) else 70) = 0):=by show (if At.right k l s t then (0:Int) else 70) = _;rw [if_pos h2]
            clear h2
            have e3:((data.size:Int)<=512):=by omega
            clear h3
            have HE:Hid (Re.entsB m = false):=Re.entsB_no.2 h4
            clear h4
            clear h
            go_enter Tryz.func140,Tryz.ntmps140
            go_wp2_with (first
    | (go_at_call 153;refine (within_is _ _ _ _ _ (by assumption)).mono ?_;rintro e w' ⟨rfl,rfl⟩)
    | (go_at_call 154;refine (rh_is _ _ _ _ (by assumption)).mono ?_;rintro e w' ⟨rfl,rfl⟩)
    | (go_at_call 71;refine (acheck_is _ _ _ _ _ _ (by assumption)).mono ?_;rintro e w' ⟨rfl,rfl⟩))
            refine (rightEntries_any _ m _ (((HV.out.al _).al _).al _) HS.out).mono ?_
            rintro e w5 ⟨rfl,hb5⟩
            rw [HE.out]
            have c9:w5.cell? ⟨w.heap.size,9,none⟩ = some (.int .i64 n):=(ten_of (block_step ((Below.heap_alloc _ _ _ (by simp;omega)).trans ((Below.heap_alloc _ _ _ (by simp)).trans (heap_alloc_new w (BR ⟨e,no,gen,k,l,s,t,data,m,n⟩ (.slice ao z cap))))) hb5)).2.2.2.2.2.2.2.2.2
            have HB5:Hid (Below w.heap.size w w5):=((((Below.refl _ _).alloc (Nat.le_refl _) _).alloc (by simp) _).alloc (by simp;omega) _).trans (hb5.mono (by simp;omega))
            clear hb5
            go_wp2_with (first
    | (go_at_call 153;refine (within_is _ _ _ _ _ (by assumption)).mono ?_;rintro e w' ⟨rfl,rfl⟩)
    | (go_at_call 154;refine (rh_is _ _ _ _ (by assumption)).mono ?_;rintro e w' ⟨rfl,rfl⟩)
    | (go_at_call 71;refine (acheck_is _ _ _ _ _ _ (by assumption)).mono ?_;rintro e w' ⟨rfl,rfl⟩))
            go_ret
            rw [HY.out]
            exact ⟨rfl,by first | exact (Below.refl _ _).alloc (Nat.le_refl _) _ | exact ((Below.refl _ _).alloc (Nat.le_refl _) _).alloc (by simp) _ | exact (((Below.refl _ _).alloc (Nat.le_refl _) _).alloc (by simp) _).alloc (by simp;omega) _ | exact HB5.out⟩
          case pos =>
            by_cases h5:0<=n/\n<=1099511627776
            case neg =>
              have HY:Hid (y = 4):=by
                have hr:Re.right ⟨e,no,gen,k,l,s,t,data,m,n⟩ = false:=Re.wrong_iff.2 fun hh=>h5 hh.2.2.2.2.2
                show y = _
                rw [← h.out,hr];rfl
              have H0:Hid (decide (0<=e/\e<=65535) = true):=decide_eq_true h0
              clear h0
              have H1:Hid (hok no gen = true):=decide_eq_true h1
              clear h1
              have H2:Hid ((if At.right k l s t then (0:Int) else 70) = 0):=by show (if At.right k l s t then (0:Int) else 70) = _;rw [if_pos h2]
              clear h2
              have e3:((data.size:Int)<=512):=by omega
              clear h3
              have HE:Hid (Re.entsB m = true):=Re.entsB_iff.2 h4
              clear h4
              have H5:Hid (decide (0<=n/\n<=1099511627776) = false):=decide_eq_false h5
              clear h5
              clear h
              go_enter Tryz.func140,Tryz.ntmps140
              go_wp2_with (first
    | (go_at_call 153;refine (within_is _ _ _ _ _ (by assumption)).mono ?_;rintro e w' ⟨rfl,rfl⟩)
    | (go_at_call 154;refine (rh_is _ _ _ _ (by assumption)).mono ?_;rintro e w' ⟨rfl,rfl⟩)
    | (go_at_call 71;refine (acheck_is _ _ _ _ _ _ (by assumption)).mono ?_;rintro e w' ⟨rfl,rfl⟩))
              refine (rightEntries_any _ m _ (((HV.out.al _).al _).al _) HS.out).mono ?_
              rintro e w5 ⟨rfl,hb5⟩
              rw [HE.out]
              have c9:w5.cell? ⟨w.heap.size,9,none⟩ = some (.int .i64 n):=(ten_of (block_step ((Below.heap_alloc _ _ _ (by simp;omega)).trans ((Below.heap_alloc _ _ _ (by simp)).trans (heap_alloc_new w (BR ⟨e,no,gen,k,l,s,t,data,m,n⟩ (.slice ao z cap))))) hb5)).2.2.2.2.2.2.2.2.2
              have HB5:Hid (Below w.heap.size w w5):=((((Below.refl _ _).alloc (Nat.le_refl _) _).alloc (by simp) _).alloc (by simp;omega) _).trans (hb5.mono (by simp;omega))
              clear hb5
              go_wp2_with (first
    | (go_at_call 153;refine (within_is _ _ _ _ _ (by assumption)).mono ?_;rintro e w' ⟨rfl,rfl⟩)
    | (go_at_call 154;refine (rh_is _ _ _ _ (by assumption)).mono ?_;rintro e w' ⟨rfl,rfl⟩)
    | (go_at_call 71;refine (acheck_is _ _ _ _ _ _ (by assumption)).mono ?_;rintro e w' ⟨rfl,rfl⟩))
              go_ret
              rw [HY.out]
              exact ⟨rfl,by first | exact (Below.refl _ _).alloc (Nat.le_refl _) _ | exact ((Below.refl _ _).alloc (Nat.le_refl _) _).alloc (by simp) _ | exact (((Below.refl _ _).alloc (Nat.le_refl _) _).alloc (by simp) _).alloc (by simp;omega) _ | exact HB5.out⟩
            case pos =>
              have HY:Hid (y = 0):=by
                have hr:Re.right ⟨e,no,gen,k,l,s,t,data,m,n⟩ = true:=Re.right_iff.2 ⟨h0,h1,h2,h3,h4,h5⟩
                show y = _
                rw [← h.out,hr];rfl
              have H0:Hid (decide (0<=e/\e<=65535) = true):=decide_eq_true h0
              clear h0
              have H1:Hid (hok no gen = true):=decide_eq_true h1
              clear h1
              have H2:Hid ((if At.right k l s t then (0:Int) else 70) = 0):=by show (if At.right k l s t then (0:Int) else 70) = _;rw [if_pos h2]
              clear h2
              have e3:((data.size:Int)<=512):=by omega
              clear h3
              have HE:Hid (Re.entsB m = true):=Re.entsB_iff.2 h4
              clear h4
              have H5:Hid (decide (0<=n/\n<=1099511627776) = true):=decide_eq_true h5
              clear h5
              clear h
              go_enter Tryz.func140,Tryz.ntmps140
              go_wp2_with (first
    | (go_at_call 153;refine (within_is _ _ _ _ _ (by assumption)).mono ?_;rintro e w' ⟨rfl,rfl⟩)
    | (go_at_call 154;refine (rh_is _ _ _ _ (by assumption)).mono ?_;rintro e w' ⟨rfl,rfl⟩)
    | (go_at_call 71;refine (acheck_is _ _ _ _ _ _ (by assumption)).mono ?_;rintro e w' ⟨rfl,rfl⟩))
              refine (rightEntries_any _ m _ (((HV.out.al _).al _).al _) HS.out).mono ?_
              rintro e w5 ⟨rfl,hb5⟩
              rw [HE.out]
              have c9:w5.cell? ⟨w.heap.size,9,none⟩ = some (.int .i64 n):=(ten_of (block_step ((Below.heap_alloc _ _ _ (by simp;omega)).trans ((Below.heap_alloc _ _ _ (by simp)).trans (heap_alloc_new w (BR ⟨e,no,gen,k,l,s,t,data,m,n⟩ (.slice ao z cap))))) hb5)).2.2.2.2.2.2.2.2.2
              have HB5:Hid (Below w.heap.size w w5):=((((Below.refl _ _).alloc (Nat.le_refl _) _).alloc (by simp) _).alloc (by simp;omega) _).trans (hb5.mono (by simp;omega))
              clear hb5
              go_wp2_with (first
    | (go_at_call 153;refine (within_is _ _ _ _ _ (by assumption)).mono ?_;rintro e w' ⟨rfl,rfl⟩)
    | (go_at_call 154;refine (rh_is _ _ _ _ (by assumption)).mono ?_;rintro e w' ⟨rfl,rfl⟩)
    | (go_at_call 71;refine (acheck_is _ _ _ _ _ _ (by assumption)).mono ?_;rintro e w' ⟨rfl,rfl⟩))
              go_ret
              rw [HY.out]
              exact ⟨rfl,HB5.out⟩
set_option maxHeartbeats 8000000 in
theorem rright_is (r : Rep) (v : Value) (w : World) (y : Bool) (hv : AtW EE w v r.ents) (hs : ∀ x ∈ r.ents, x.1.size ≤ maxLen) (h : Hid (Re.right r = y)) : Calls Tryz.prog 112 #[VR r v] w fun e w' => e = .returned (.bool y) ∧ Below w.heap.size w w' := by
  obtain ⟨e,no,gen,k,l,s,t,data,m,n⟩:=r
  have hv0:AtW EE w v m:=hv
  obtain ⟨ao,cap,rfl,hm,hx⟩:=hv0.open
  clear hv0
  unfold maxLen at hm
  obtain ⟨z,hz⟩:∃ z,m.length = z:=⟨_,rfl⟩
  rw [hz] at hm hv ⊢
  have HZ:Hid (m.length = z):=hz
  have HV:Hid (AtW EE w (.slice ao z cap) m):=hv
  have HS:Hid (∀ x∈m,x.1.size<=maxLen):=hs
  clear hz hv hs hx
  obtain ⟨W,hW⟩:∃ W,W = w.alloc (BR ⟨e,no,gen,k,l,s,t,data,m,n⟩ (.slice ao z cap)):=⟨_,rfl⟩
  clear W hW
  by_cases h0:0<=e
  case neg =>
    have HY:Hid (y = false):=by
      have hr:Re.right ⟨e,no,gen,k,l,s,t,data,m,n⟩ = false:=Re.wrong_iff.2 fun hh=>h0 hh.1.1
      show y = _
      rw [← h.out,hr]
    clear h
    go_enter Tryz.func112,Tryz.ntmps112
    go_wp2_with (first
    | (go_at_call 145;refine (rhandle_is _ _ _ _ (by assumption)).mono ?_;rintro e w' ⟨rfl,rfl⟩)
    | (go_at_call 55;refine (aright_is _ _ _ _ _ _ (by assumption)).mono ?_;rintro e w' ⟨rfl,rfl⟩))
    go_ret
    rw [HY.out]
    exact ⟨rfl,by first | exact (Below.refl _ _).alloc (Nat.le_refl _) _ | exact ((Below.refl _ _).alloc (Nat.le_refl _) _).alloc (by simp) _ | exact (((Below.refl _ _).alloc (Nat.le_refl _) _).alloc (by simp) _).alloc (by simp;omega) _⟩
  case pos =>
    by_cases h1:e<=65535
    case neg =>
      have HY:Hid (y = false):=by
        have hr:Re.right ⟨e,no,gen,k,l,s,t,data,m,n⟩ = false:=Re.wrong_iff.2 fun hh=>h1 hh.1.2
        show y = _
        rw [← h.out,hr]
      clear h
      go_enter Tryz.func112,Tryz.ntmps112
      go_wp2_with (first
    | (go_at_call 145;refine (rhandle_is _ _ _ _ (by assumption)).mono ?_;rintro e w' ⟨rfl,rfl⟩)
    | (go_at_call 55; refine (aright_is _ _ _ _ _ _ (by assumption)).mono ?_; rintro e w' ⟨rfl, rfl⟩))
      go_ret
      rw [HY.out]
      exact ⟨rfl,by first | exact (Below.refl _ _).alloc (Nat.le_refl _) _ | exact ((Below.refl _ _).alloc (Nat.le_refl _) _).alloc (by simp) _ | exact (((Below.refl _ _).alloc (Nat.le_refl _) _).alloc (by simp) _).alloc (by simp;omega) _⟩
    case pos =>
      by_cases h2:hokP no gen
      case neg =>
        have HY:Hid (y = false):=by
          have hr:Re.right ⟨e,no,gen,k,l,s,t,data,m,n⟩ = false:=Re.wrong_iff.2 fun hh=>h2 hh.2.1
          show y = _
          rw [← h.out,hr]
        have H2:Hid (hok no gen = false):=decide_eq_false h2
        clear h2
        clear h
        go_enter Tryz.func112,Tryz.ntmps112
        go_wp2_with (first
    | (go_at_call 145;refine (rhandle_is _ _ _ _ (by assumption)).mono ?_;rintro e w' ⟨rfl,rfl⟩)
    | (go_at_call 55; refine (aright_is _ _ _ _ _ _ (by assumption)).mono ?_; rintro e w' ⟨rfl, rfl⟩))
        go_ret
        rw [HY.out]
        exact ⟨rfl,by first | exact (Below.refl _ _).alloc (Nat.le_refl _) _ | exact ((Below.refl _ _).alloc (Nat.le_refl _) _).alloc (by simp) _ | exact (((Below.refl _ _).alloc (Nat.le_refl _) _).alloc (by simp) _).alloc (by simp;omega) _⟩
      case pos =>
        by_cases h3:At.right k l s t = true
        case neg =>
          have HY:Hid (y = false):=by
            have hr:Re.right ⟨e,no,gen,k,l,s,t,data,m,n⟩ = false:=Re.wrong_iff.2 fun hh=>h3 hh.2.2.1
            show y = _
            rw [← h.out,hr]
          have H2:Hid (hok no gen = true):=decide_eq_true h2
          clear h2
          have H3:Hid (At.right k l s t = false):=by simpa [Hid] using h3
          clear h3
          clear h
          go_enter Tryz.func112,Tryz.ntmps112
          go_wp2_with (first
    | (go_at_call 145;refine (rhandle_is _ _ _ _ (by assumption)).mono ?_;rintro e w' ⟨rfl,rfl⟩)
    | (go_at_call 55;refine (aright_is _ _ _ _ _ _ (by assumption)).mono ?_;rintro e w' ⟨rfl,rfl⟩))
          go_ret
          rw [HY.out]
          exact ⟨rfl,by first | exact (Below.refl _ _).alloc (Nat.le_refl _) _ | exact ((Below.refl _ _).alloc (Nat.le_refl _) _).alloc (by simp) _ | exact (((Below.refl _ _).alloc (Nat.le_refl _) _).alloc (by simp) _).alloc (by simp;omega) _⟩
        case pos =>
          by_cases h4:data.size<=512
          case neg =>
            have HY:Hid (y = false):=by
              have hr:Re.right ⟨e,no,gen,k,l,s,t,data,m,n⟩ = false:=Re.wrong_iff.2 fun hh=>h4 hh.2.2.2.1
              show y = _
              rw [← h.out,hr]
            have H2:Hid (hok no gen = true):=decide_eq_true h2
            clear h2
            have H3:Hid (At.right k l s t = true):=h3
            clear h3
            have e4:¬ ((data.size:Int)<=512):=by omega
            clear h4
            clear h
            go_enter Tryz.func112,Tryz.ntmps112
            go_wp2_with (first
    | (go_at_call 145;refine (rhandle_is _ _ _ _ (by assumption)).mono ?_;rintro e w' ⟨rfl,rfl⟩)
    | (go_at_call 55;refine (aright_is _ _ _ _ _ _ (by assumption)).mono ?_;rintro e w' ⟨rfl,rfl⟩))
            go_ret
            rw [HY.out]
            exact ⟨rfl,by first | exact (Below.refl _ _).alloc (Nat.le_refl _) _ | exact ((Below.refl _ _).alloc (Nat.le_refl _) _).alloc (by simp) _ | exact (((Below.refl _ _).alloc (Nat.le_refl _) _).alloc (by simp) _).alloc (by simp;omega) _⟩
          case pos =>
            by_cases h5:z<=64
            case neg =>
              have HY:Hid (y = false):=by
                have hr:Re.right ⟨e,no,gen,k,l,s,t,data,m,n⟩ = false:=Re.wrong_iff.2 fun hh=>h5 (by have:=hh.2.2.2.2.1.1;rw [HZ.out] at this;exact this)
                show y = _
                rw [← h.out,hr]
              have H2:Hid (hok no gen = true):=decide_eq_true h2
              clear h2
              have H3:Hid (At.right k l s t = true):=h3
              clear h3
              have e4:((data.size:Int)<=512):=by omega
              clear h4
              have e5:¬ ((z:Int)<=64):=by omega
              clear h5
              clear h
              go_enter Tryz.func112,Tryz.ntmps112
              go_wp2_with (first
    | (go_at_call 145;refine (rhandle_is _ _ _ _ (by assumption)).mono ?_;rintro e w' ⟨rfl,rfl⟩)
    | (go_at_call 55; refine (aright_is _ _ _ _ _ _ (by assumption)).mono ?_; rintro e w' ⟨rfl, rfl⟩))
              go_ret
              rw [HY.out]
              exact ⟨rfl,by first | exact (Below.refl _ _).alloc (Nat.le_refl _) _ | exact ((Below.refl _ _).alloc (Nat.le_refl _) _).alloc (by simp) _ | exact (((Below.refl _ _).alloc (Nat.le_refl _) _).alloc (by simp) _).alloc (by simp;omega) _⟩
            case pos =>
              by_cases h6:0<=n
              case neg =>
                have HY:Hid (y = false):=by
                  have hr:Re.right ⟨e,no,gen,k,l,s,t,data,m,n⟩ = false:=Re.wrong_iff.2 fun hh=>h6 hh.2.2.2.2.2.1
                  show y = _
                  rw [← h.out,hr]
                have H2:Hid (hok no gen = true):=decide_eq_true h2
                clear h2
                have H3:Hid (At.right k l s t = true):=h3
                clear h3
                have e4:((data.size:Int)<=512):=by omega
                clear h4
                have e5:((z:Int)<=64):=by omega
                clear h5
                clear h
                go_enter Tryz.func112,Tryz.ntmps112
                go_wp2_with (first
    | (go_at_call 145;refine (rhandle_is _ _ _ _ (by assumption)).mono ?_;rintro e w' ⟨rfl,rfl⟩)
    | (go_at_call 55; refine (aright_is _ _ _ _ _ _ (by assumption)).mono ?_; rintro e w' ⟨rfl, rfl⟩))
                go_ret
                rw [HY.out]
                exact ⟨rfl,by first | exact (Below.refl _ _).alloc (Nat.le_refl _) _ | exact ((Below.refl _ _).alloc (Nat.le_refl _) _).alloc (by simp) _ | exact (((Below.refl _ _).alloc (Nat.le_refl _) _).alloc (by simp) _).alloc (by simp;omega) _⟩
              case pos =>
                by_cases h7:n<=1099511627776
                case neg =>
                  have HY:Hid (y = false):=by
                    have hr:Re.right ⟨e,no,gen,k,l,s,t,data,m,n⟩ = false:=Re.wrong_iff.2 fun hh=>h7 hh.2.2.2.2.2.2
                    show y = _
                    rw [← h.out,hr]
                  have H2:Hid (hok no gen = true):=decide_eq_true h2
                  clear h2
                  have H3:Hid (At.right k l s t = true):=h3
                  clear h3
                  have e4:((data.size:Int)<=512):=by omega
                  clear h4
                  have e5:((z:Int)<=64):=by omega
                  clear h5
                  clear h
                  go_enter Tryz.func112,Tryz.ntmps112
                  go_wp2_with (first
    | (go_at_call 145;refine (rhandle_is _ _ _ _ (by assumption)).mono ?_;rintro e w' ⟨rfl,rfl⟩)
    | (go_at_call 55; refine (aright_is _ _ _ _ _ _ (by assumption)).mono ?_; rintro e w' ⟨rfl, rfl⟩))
                  go_ret
                  rw [HY.out]
                  exact ⟨rfl,by first | exact (Below.refl _ _).alloc (Nat.le_refl _) _ | exact ((Below.refl _ _).alloc (Nat.le_refl _) _).alloc (by simp) _ | exact (((Below.refl _ _).alloc (Nat.le_refl _) _).alloc (by simp) _).alloc (by simp;omega) _⟩
                case pos =>
                  have HEE:Hid (y = true ↔ Re.entsP 0 m):=by
                    show _ ↔ _
                    rw [← h.out,Re.right_iff]
                    exact ⟨fun hh=>hh.2.2.2.2.1.2,fun hh=>⟨⟨h0,h1⟩,h2,h3,h4,⟨(by show m.length<=64;rw [HZ.out];omega),hh⟩,⟨h6,h7⟩⟩⟩
                  have H2:Hid (hok no gen = true):=decide_eq_true h2
                  clear h2
                  have H3:Hid (At.right k l s t = true):=h3
                  clear h3
                  have e4:((data.size:Int)<=512):=by omega
                  clear h4
                  have e5:((z:Int)<=64):=by omega
                  clear h5
                  clear h
                  exact rright_loop e no gen k l s t data m n ao z cap w y hm HZ HV HS HEE h0 h1 H2 H3 e4 e5 h6 h7
end Go.Proofs.YtggoccfddnpelaaGreat.Ks.Rs
