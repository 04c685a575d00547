/- OBase, OLists2, NIdx, FTwo, FRefA, as one. -/
import Derived.Test.YtggoccfddnpelaaGreatR10
namespace Go.Proofs.YtggoccfddnpelaaGreat.Os
open Go.ChangeShapes Go.WideShapes Go.ChangeAt Go.RowKit Go.Deep
set_option maxRecDepth 100000
theorem laidOut:laidOutB Tryz.prog = true:=by kernel_rfl
theorem own:ownKnob Tryz.prog.godebug = none:=by kernel_rfl
theorem infoO:(Tryz.prog.info? 57).map (fun i=>(i.zero,i.size,i.bytes)) = some (some (.agg #[.int .i64 0,.int .i64 0,.int .i64 0,.int .i64 0]),4,32):=by kernel_rfl
theorem info_parts {P:Program} {e:TypeId} {z:Value} {n b:Nat} (h:(P.info? e).map (fun i=>(i.zero,i.size,i.bytes)) = some (some z,n,b)):∃ i,P.info? e = some i/\i.zero = some z/\i.size = n/\i.bytes = b:=by
  cases hi:P.info? e with
  | none=>rw [hi] at h;cases h
  | some i =>
    rw [hi] at h
    simp at h
    exact ⟨i,rfl,h.1,h.2.1,h.2.2⟩
theorem within_any (lo x hi:Int) (w:World):Calls Tryz.prog 89 #[.int .i64 lo,.int .i64 x,.int .i64 hi] w fun e w'=>e = .returned (.bool (decide (lo<=x/\x<=hi)))/\w' = w:=by
  by_cases h1:lo<=x
  · by_cases h2 : x ≤ hi
    · rw [decide_eq_true (show lo ≤ x ∧ x ≤ hi from ⟨h1, h2⟩)]
      go_enter Tryz.func89,Tryz.ntmps89
      go_wp2
      go_ret
      exact ⟨rfl,rfl⟩
    · rw [decide_eq_false (show ¬ (lo ≤ x ∧ x ≤ hi) from fun h => h2 h.2)]
      go_enter Tryz.func89,Tryz.ntmps89
      go_wp2
      go_ret
      exact ⟨rfl,rfl⟩
  · rw [decide_eq_false (show ¬ (lo ≤ x ∧ x ≤ hi) from fun h => h1 h.1)]
    go_enter Tryz.func89,Tryz.ntmps89
    go_wp2
    go_ret
    exact ⟨rfl,rfl⟩
theorem within_yes (lo x hi:Int) (w:World) (h:lo<=x/\x<=hi):Calls Tryz.prog 89 #[.int .i64 lo,.int .i64 x,.int .i64 hi] w fun e w'=>e = .returned (.bool true)/\w' = w:=by
  have:=within_any lo x hi w
  rwa [decide_eq_true h] at this
theorem within_no (lo x hi:Int) (w:World) (h:¬ (lo<=x/\x<=hi)):Calls Tryz.prog 89 #[.int .i64 lo,.int .i64 x,.int .i64 hi] w fun e w'=>e = .returned (.bool false)/\w' = w:=by
  have:=within_any lo x hi w
  rwa [decide_eq_false h] at this
theorem rclient_any (c:Int) (w:World):Calls Tryz.prog 90 #[.int .i64 c] w fun e w'=>e = .returned (.bool (decide (Op.Cl c)))/\w' = w:=by
  obtain ⟨b,hb⟩:∃ b,decide (Op.Cl c) = b:=⟨_,rfl⟩
  have HD:Hid (decide (0<=c/\c<=1099511627776) = b):=(show decide (0<=c/\c<=1099511627776) = decide (Op.Cl c) from decide_eq_decide.2 Iff.rfl).trans hb
  rw [hb]
  clear hb
  go_enter Tryz.func90,Tryz.ntmps90
  go_wp2_with fail
  refine (within_any _ _ _ _).mono ?_
  rintro e w' ⟨rfl,rfl⟩
  rw [HD.out]
  go_wp2
  go_ret
  exact ⟨rfl,rfl⟩
theorem rclient_yes (c:Int) (w:World) (h:Op.Cl c):Calls Tryz.prog 90 #[.int .i64 c] w fun e w'=>e = .returned (.bool true)/\w' = w:=by
  have:=rclient_any c w
  rwa [decide_eq_true h] at this
theorem rclient_no (c:Int) (w:World) (h:¬ Op.Cl c):Calls Tryz.prog 90 #[.int .i64 c] w fun e w'=>e = .returned (.bool false)/\w' = w:=by
  have:=rclient_any c w
  rwa [decide_eq_false h] at this
abbrev BH (no gen:Int):Obj:=.cells #[.int .i64 no,.int .i64 gen] 55
abbrev VH (no gen:Int):Value:=.agg #[.int .i64 no,.int .i64 gen]
theorem rof_any (no gen:Int) (w:World):Calls Tryz.prog 91 #[VH no gen] w fun e w'=>e = .returned (.bool (decide (Ho no gen)))/\w' = w.alloc (BH no gen):=by
  by_cases h1:0<=no/\no<=23
  · have H : Hid (0 ≤ no ∧ no ≤ 23) := h1
    obtain ⟨b,hb⟩:∃ b,decide (Ho no gen) = b:=⟨_,rfl⟩
    have HD:Hid (decide (1<=gen/\gen<=1099511627776) = b):=(show decide (1<=gen/\gen<=1099511627776) = decide (Ho no gen) from decide_eq_decide.2 ⟨fun h=>⟨h1,h⟩,fun h=>h.2⟩).trans hb
    rw [hb]
    clear h1 hb
    go_enter Tryz.func91,Tryz.ntmps91
    go_wp2_with fail
    refine (within_yes _ _ _ _ H.out).mono ?_
    rintro e w' ⟨rfl,rfl⟩
    go_wp2_with fail
    refine (within_any _ _ _ _).mono ?_
    rintro e w' ⟨rfl,rfl⟩
    rw [HD.out]
    go_wp2
    go_ret
    exact ⟨rfl,rfl⟩
  · rw [decide_eq_false (show ¬ Ho no gen from fun h => h1 h.1)]
    have H:Hid (¬ (0<=no/\no<=23)):=h1
    clear h1
    go_enter Tryz.func91,Tryz.ntmps91
    go_wp2_with fail
    refine (within_no _ _ _ _ H.out).mono ?_
    rintro e w' ⟨rfl,rfl⟩
    go_wp2
    go_ret
    exact ⟨rfl,rfl⟩
theorem rof_yes (no gen:Int) (w:World) (h:Ho no gen):Calls Tryz.prog 91 #[VH no gen] w fun e w'=>e = .returned (.bool true)/\w' = w.alloc (BH no gen):=by
  have:=rof_any no gen w
  rwa [decide_eq_true h] at this
theorem rof_no (no gen:Int) (w:World) (h:¬ Ho no gen):Calls Tryz.prog 91 #[VH no gen] w fun e w'=>e = .returned (.bool false)/\w' = w.alloc (BH no gen):=by
  have:=rof_any no gen w
  rwa [decide_eq_false h] at this
abbrev BO (x:Opn):Obj:=.cells #[.int .i64 x.1,.int .i64 x.2.1,.int .i64 x.2.2.1,.int .i64 x.2.2.2] 57
abbrev VO (x:Opn):Value:=.agg #[.int .i64 x.1,.int .i64 x.2.1,.int .i64 x.2.2.1,.int .i64 x.2.2.2]
theorem eql_hand (w:World) (a b c d:Int):(binOp .eql 55 (VH a b) (VH c d)).run Tryz.prog w = .ok (.bool (a == c && b == d)) w:=by
  cases h0:(a == c) <;> cases h1:(b == d) <;> go_simp <;> simp [h0,h1]
theorem cell_older {w1:World} {p:Nat} (hp:p < w1.heap.size) (o:Obj) (j:Nat):(w1.alloc o).cell? ⟨p,j,none⟩ = w1.cell? ⟨p,j,none⟩:=((Below.refl w1.heap.size w1).alloc (Nat.le_refl _) o).cell (p:=⟨p,j,none⟩) hp
theorem opn_cells {w wr:World} {b off k:Nat} {x:Opn} (h:Below w.heap.size w wr) (hB:b < w.heap.size) (hc:∀ j u,(EO.cells x)[j]? = some u->w.cell? ⟨b,off + (k * EO.sz + j),none⟩ = some u) :
    wr.cell? ⟨b,off + k * 4,none⟩ = some (.int .i64 x.1)/\wr.cell? ⟨b,off + k * 4 + 1,none⟩ = some (.int .i64 x.2.1)/\wr.cell? ⟨b,off + k * 4 + 2,none⟩ = some (.int .i64 x.2.2.1)/\wr.cell? ⟨b,off + k * 4 + 3,none⟩ = some (.int .i64 x.2.2.2):=by
  have a:=fun j u hj=>(h.cell (p:=⟨b,off + (k * EO.sz + j),none⟩) hB).trans (hc j u hj)
  exact ⟨a 0 _ rfl,a 1 _ rfl,a 2 _ rfl,a 3 _ rfl⟩
/-- What a slice that stands for a list gives a loop over it. -/
abbrev Over (w:World) (ao:Option Addr) (l:List Opn):Prop:=∀ i x,l[i]? = some x->∃ b off,ao = some ⟨b,off,none⟩/\True/\b < w.heap.size/\∀ k u,(EO.cells x)[k]? = some u->w.cell? ⟨b,off + (i * EO.sz + k),none⟩ = some u
set_option maxHeartbeats 2000000 in
theorem check_any (v : Value) (l : List Opn) (w : World) (hv : AtW EO w v l) :
    Calls Tryz.prog 63 #[v] w fun e w'=>e = .returned (.int .i64 (if Op.right 0 l = true then 0 else 4))/\Below w.heap.size w w':=by
  obtain ⟨ao,cap,rfl,hm,hx⟩:=hv.open
  clear hv
  unfold maxLen at hm
  obtain ⟨n,hn⟩:∃ n,l.length = n:=⟨_,rfl⟩
  rw [hn] at hm ⊢
  have HN:Hid (l.length = n):=hn
  have HX:Hid (Over w ao l):=hx
  obtain ⟨r,hr⟩:∃ r,(if Op.right 0 l = true then (0:Int) else 4) = r:=⟨_,rfl⟩
  rw [hr]
  have HR:Hid ((if Op.right 0 l = true then (0:Int) else 4) = r):=hr
  clear hn hx hr
  go_enter Tryz.func63,Tryz.ntmps63
  go_wp2
  go_loopw [3,8] (fun t i wr=>∃ (k:Nat) (t':Int),k<=n/\i = .int .i64 k/\t = .int .i64 t'/\0<=t'/\Hid (Op.right 0 l = Op.right t' (l.drop k))/\Hid (Below w.heap.size w wr)) (fun _ i _=>n - (intOf i).toNat)
  case atStart=>exact ⟨0,0,Nat.zero_le _,rfl,rfl,Int.le_refl _,rfl,Below.refl _ _⟩
  case round =>
    obtain ⟨k,t,hk,rfl,rfl,ht0,HP,HB⟩:=hrel
    have hsz:=HB.out.size
    by_cases hlt:k < n
    · obtain ⟨x, hxk⟩ : ∃ x, l[k]? = some x := ⟨_, List.getElem?_eq_getElem (by rw [HN.out]; exact hlt)⟩
      have HXK:Hid (l[k]? = some x):=hxk
      obtain ⟨b,off,rfl,-,hB,hc⟩:=HX.out k x hxk
      obtain ⟨c0,c1,c2,c3⟩:=opn_cells HB.out hB hc
      clear hc hxk
      have hlt':(k:Int) < (n:Int):=by omega
      have HNO:Hid (¬ Op.good t x->r = 4):=fun hg=>by
        have:=HR.out
        rw [HP.out,Op.right_no HXK.out hg] at this
        exact this.symm
      have HYES:Hid (Op.good t x->Op.right 0 l = Op.right (x.1 + 1) (l.drop (k + 1))):=fun hg=>HP.out.trans (Op.right_yes HXK.out hg)
      by_cases g1:t<=x.1/\x.1<=15
      · have G1 : Hid (t ≤ x.1 ∧ x.1 ≤ 15) := g1
        by_cases g2:Op.Cl x.2.1
        · have G2 : Hid (Op.Cl x.2.1) := g2
          by_cases g3:Ho x.2.2.1 x.2.2.2
          · have G3 : Hid (Ho x.2.2.1 x.2.2.2) := g3
            have hle:=g1.2
            have HY:Hid (Op.right 0 l = Op.right (x.1 + 1) (l.drop (k + 1))):=HYES.out ⟨g1,g2,g3⟩
            have hge:0<=x.1:=by omega
            clear g1 g2 g3
            go_wp2_with fail
            refine (within_yes _ _ _ _ G1.out).mono ?_
            rintro e w' ⟨rfl,rfl⟩
            go_wp2_with fail
            refine (rclient_yes _ _ G2.out).mono ?_
            rintro e w' ⟨rfl,rfl⟩
            go_wp2_with fail
            refine (rof_yes _ _ _ G3.out).mono ?_
            rintro e w' ⟨rfl,rfl⟩
            go_wp2
            go_roundw
            case rel=>exact ⟨k + 1,x.1 + 1,by omega,by go_num,by go_num,by omega,HY,(HB.out.alloc hsz _).alloc (by simp;omega) _⟩
            case measure=>simp [intOf];omega
          · have H : Hid (r = 4) := HNO.out fun h => g3 h.2.2
            have G3:Hid (¬ Ho x.2.2.1 x.2.2.2):=g3
            clear g1 g2 g3
            go_wp2_with fail
            refine (within_yes _ _ _ _ G1.out).mono ?_
            rintro e w' ⟨rfl,rfl⟩
            go_wp2_with fail
            refine (rclient_yes _ _ G2.out).mono ?_
            rintro e w' ⟨rfl,rfl⟩
            go_wp2_with fail
            refine (rof_no _ _ _ G3.out).mono ?_
            rintro e w' ⟨rfl,rfl⟩
            go_wp2
            go_ret
            rw [H.out]
            exact ⟨rfl,(HB.out.alloc hsz _).alloc (by simp;omega) _⟩
        · have H : Hid (r = 4) := HNO.out fun h => g2 h.2.1
          have G2:Hid (¬ Op.Cl x.2.1):=g2
          clear g1 g2
          go_wp2_with fail
          refine (within_yes _ _ _ _ G1.out).mono ?_
          rintro e w' ⟨rfl,rfl⟩
          go_wp2_with fail
          refine (rclient_no _ _ G2.out).mono ?_
          rintro e w' ⟨rfl,rfl⟩
          go_wp2
          go_ret
          rw [H.out]
          exact ⟨rfl,HB.out.alloc hsz _⟩
      · have H : Hid (r = 4) := HNO.out fun h => g1 h.1
        have G1:Hid (¬ (t<=x.1/\x.1<=15)):=g1
        clear g1
        go_wp2_with fail
        refine (within_no _ _ _ _ G1.out).mono ?_
        rintro e w' ⟨rfl,rfl⟩
        go_wp2
        go_ret
        rw [H.out]
        exact ⟨rfl,HB.out.alloc hsz _⟩
    · obtain rfl : k = n := by omega
      have H:Hid (r = 0):=by
        have:=HR.out
        rw [HP.out,Op.right_end HN.out.symm,if_pos rfl] at this
        exact this.symm
      go_wp2
      go_ret
      rw [H.out]
      exact ⟨rfl,HB.out⟩
theorem hand_of {w:World} {A:Nat} {no gen:Int} (h:w.heap[A]? = some (BH no gen)):w.cell? ⟨A,0,none⟩ = some (.int .i64 no)/\w.cell? ⟨A,1,none⟩ = some (.int .i64 gen):=by
  constructor <;> simp [World.cell?,h]
namespace Op
theorem held_in {l:List Opn} {no gen:Int} {k:Nat} {x:Opn} (h:l[k]? = some x) (hx:(x.2.2.1 == no && x.2.2.2 == gen) = true):held (l.take (k + 1)) no gen = held (l.take k) no gen + 1:=by
  unfold held
  rw [take_at h,List.countP_append]
  simp only [List.countP_singleton,hx,if_true]
theorem held_out {l:List Opn} {no gen:Int} {k:Nat} {x:Opn} (h:l[k]? = some x) (hx:(x.2.2.1 == no && x.2.2.2 == gen) = false):held (l.take (k + 1)) no gen = held (l.take k) no gen:=by
  unfold held
  rw [take_at h,List.countP_append]
  simp [hx]
end Op
set_option maxHeartbeats 1000000 in
theorem held_any (v : Value) (l : List Opn) (no gen : Int) (w : World) (hv : AtW EO w v l) :
    Calls Tryz.prog 125 #[v,VH no gen] w fun e w'=>e = .returned (.int .i64 (Op.held l no gen:Nat))/\Below w.heap.size w w':=by
  obtain ⟨ao,cap,rfl,hm,hx⟩:=hv.open
  clear hv
  unfold maxLen at hm
  obtain ⟨n,hn⟩:∃ n,l.length = n:=⟨_,rfl⟩
  rw [hn] at hm ⊢
  have HN:Hid (l.length = n):=hn
  have HX:Hid (Over w ao l):=hx
  obtain ⟨r,hr⟩:∃ r,Op.held l no gen = r:=⟨_,rfl⟩
  rw [hr]
  have HR:Hid (Op.held l no gen = r):=hr
  obtain ⟨W,hW⟩:∃ W,W = w.alloc (BH no gen):=⟨_,rfl⟩
  have HB0:Hid (Below w.heap.size w W):=by show Below w.heap.size w W;rw [hW];exact (Below.refl _ w).alloc (Nat.le_refl _) _
  have HA0:Hid (W.heap[w.heap.size]? = some (BH no gen)):=by show W.heap[w.heap.size]? = some (BH no gen);rw [hW];exact heap_alloc_new w (BH no gen)
  have hWs:W.heap.size = w.heap.size + 1:=by rw [hW];simp
  clear hn hx hr
  go_enter Tryz.func125,Tryz.ntmps125
  go_wp2
  rw [← hW]
  clear hW
  go_loopw [5,10] (fun t i wr=>∃ (k m:Nat),k<=n/\m<=k/\i = .int .i64 k/\t = .int .i64 m/\Hid (m = Op.held (l.take k) no gen)/\Hid (Below W.heap.size W wr)) (fun _ i _=>n - (intOf i).toNat)
  case atStart=>exact ⟨0,0,Nat.zero_le _,Nat.le_refl _,rfl,rfl,rfl,Below.refl _ _⟩
  case round =>
    obtain ⟨k,m,hk,hmk,rfl,rfl,HM,HB⟩:=hrel
    have hsz:=HB.out.size
    have HB1:Hid (Below w.heap.size w wr):=HB0.out.trans (HB.out.mono HB0.out.size)
    obtain ⟨z0,z1⟩:=hand_of ((HB.out.block _ (Array.getElem?_eq_some_iff.1 HA0.out).1).trans HA0.out)
    by_cases hlt:k < n
    · obtain ⟨x, hxk⟩ : ∃ x, l[k]? = some x := ⟨_, List.getElem?_eq_getElem (by rw [HN.out]; exact hlt)⟩
      have HXK:Hid (l[k]? = some x):=hxk
      obtain ⟨b,off,rfl,-,hB,hc⟩:=HX.out k x hxk
      obtain ⟨c0,c1,c2,c3⟩:=opn_cells HB1.out hB hc
      clear hc hxk
      rw [← cell_older (by omega) (BO x)] at z0 z1
      have hlt':(k:Int) < (n:Int):=by omega
      cases g:(x.2.2.1 == no && x.2.2.2 == gen) with
      | true =>
        have HG:Hid (Op.held (l.take (k + 1)) no gen = Op.held (l.take k) no gen + 1):=Op.held_in HXK.out g
        have heq:∀ w',(binOp .eql 55 (VH x.2.2.1 x.2.2.2) (VH no gen)).run Tryz.prog w' = .ok (.bool true) w':=fun w'=>by rw [eql_hand,g]
        clear g
        go_wp2
        go_roundw
        case rel=>exact ⟨k + 1,m + 1,by omega,by omega,by go_num,by go_num,by rw [HG.out,← HM.out];exact rfl,HB.out.alloc hsz _⟩
        case measure=>simp [intOf];omega
      | false =>
        have HG:Hid (Op.held (l.take (k + 1)) no gen = Op.held (l.take k) no gen):=Op.held_out HXK.out g
        have heq:∀ w',(binOp .eql 55 (VH x.2.2.1 x.2.2.2) (VH no gen)).run Tryz.prog w' = .ok (.bool false) w':=fun w'=>by rw [eql_hand,g]
        clear g
        go_wp2
        go_roundw
        case rel=>exact ⟨k + 1,m,by omega,by omega,by go_num,rfl,by rw [HG.out,← HM.out];exact rfl,HB.out.alloc hsz _⟩
        case measure=>simp [intOf];omega
    · obtain rfl : k = n := by omega
      have H:Hid (r = m):=by
        have:=HR.out
        have h2:=HM.out
        rw [← HN.out,List.take_length,this] at h2
        exact h2.symm
      go_wp2
      go_ret
      rw [H.out]
      exact ⟨rfl,HB1.out⟩
end Go.Proofs.YtggoccfddnpelaaGreat.Os
namespace Go.Proofs.YtggoccfddnpelaaGreat
open Go.ChangeShapes Go.WideShapes Go.ChangeAt Go.RowKit Go.Deep It
set_option maxRecDepth 100000
def atI {α:Type} (p:α->Bool) (l:List α):Int:=match l.findIdx? p with | some k=>(k:Int) | none=>-1
theorem atI_hit {α:Type} {p:α->Bool} {l:List α} {k:Nat} {x:α} (h:l[k]? = some x) (hp:p x = true) (hb:∀ j y,j < k->l[j]? = some y->p y = false):atI p l = k:=by
  unfold atI
  have hk:=(List.getElem?_eq_some_iff.1 h).1
  have hx:=(List.getElem?_eq_some_iff.1 h).2
  have:l.findIdx? p = some k:=by
    rw [List.findIdx?_eq_some_iff_getElem]
    refine ⟨hk,by rw [hx];exact hp,fun j hj=>?_⟩
    have:=hb j _ hj (List.getElem?_eq_getElem (by omega))
    simp [this]
  rw [this]
theorem atI_miss {α:Type} {p:α->Bool} {l:List α} (hb:∀ j y,j < l.length->l[j]? = some y->p y = false):atI p l = -1:=by
  unfold atI
  have:l.findIdx? p = none:=by
    rw [List.findIdx?_eq_none_iff]
    intro x hx
    obtain ⟨j,hj⟩:=List.mem_iff_getElem?.1 hx
    exact hb j x (List.getElem?_eq_some_iff.1 hj).1 hj
  rw [this]
theorem atI_any {α:Type} (p:α->Bool) (l:List α):decide (0<=atI p l) = l.any p:=by
  unfold atI
  cases h:l.findIdx? p with
  | none =>
    rw [List.findIdx?_eq_none_iff] at h
    have:l.any p = false:=List.any_eq_false.2 fun x hx=>by rw [h x hx];simp
    rw [this]
    rfl
  | some k =>
    rw [List.findIdx?_eq_some_iff_getElem] at h
    obtain ⟨hk,hp,-⟩:=h
    have:l.any p = true:=List.any_eq_true.2 ⟨_,List.getElem_mem hk,hp⟩
    rw [this]
    simp
set_option maxHeartbeats 2000000 in
theorem idxFi (v : Value) (l : List (Int × Int)) (p : (Int × Int) → Bool) (b : Nat) (w : World) (hv : AtW EH w v l)
    (hp:∀ x∈l,∀ V,Below w.heap.size w V->Calls Tryz.prog 122 #[.agg #[.int .i64 x.1,.int .i64 x.2],.pointer (some ⟨b,0,none⟩)] V fun e w'=>e = .returned (.bool (p x))/\Below V.heap.size V w') :
    Calls Tryz.prog 127 #[v,VF 122 b] w fun e w'=>e = .returned (.int .i64 (atI p l))/\Below w.heap.size w w':=by
  obtain ⟨ao,cap,rfl,hm,hx⟩:=hv.open
  clear hv
  unfold maxLen at hm
  obtain ⟨n,hn⟩:∃ n,l.length = n:=⟨_,rfl⟩
  rw [hn] at hm ⊢
  have HN:Hid (l.length = n):=hn
  have HX:Hid (∀ i x,l[i]? = some x->∃ b off,ao = some ⟨b,off,none⟩/\True/\b < w.heap.size/\∀ k u,(EH.cells x)[k]? = some u->w.cell? ⟨b,off + (i * EH.sz + k),none⟩ = some u):=hx
  have HPR:Hid (∀ x∈l,∀ V,Below w.heap.size w V->Calls Tryz.prog 122 #[.agg #[.int .i64 x.1,.int .i64 x.2],.pointer (some ⟨b,0,none⟩)] V fun e w'=>e = .returned (.bool (p x))/\Below V.heap.size V w'):=hp
  clear hn hx hp
  go_enter Tryz.func127,Tryz.ntmps127
  go_wp2
  go_loopw [8] (fun i wr=>∃ k:Nat,k<=n/\i = .int .i64 k/\Hid (∀ j y,j < k->l[j]? = some y->p y = false)/\Hid (Below w.heap.size w wr)) (fun i _=>n - (intOf i).toNat)
  case atStart=>exact ⟨0,Nat.zero_le _,rfl,fun j y hj=>by omega,Below.refl _ _⟩
  case round =>
    obtain ⟨k,hk,rfl,HP,HB⟩:=hrel
    by_cases hlt:k < n
    · obtain ⟨x, hxk⟩ : ∃ x, l[k]? = some x := ⟨_, List.getElem?_eq_getElem (by rw [HN.out]; exact hlt)⟩
      have HXK:Hid (l[k]? = some x):=hxk
      obtain ⟨b2,off,rfl,-,hB,hcx⟩:=HX.out k x hxk
      have a:=fun j u hj=>(HB.out.cell (p:=⟨b2,off + (k * EH.sz + j),none⟩) hB).trans (hcx j u hj)
      have c0:wr.cell? ⟨b2,off + k * 2,none⟩ = some (.int .i64 x.1):=a 0 _ rfl
      have c1:wr.cell? ⟨b2,off + k * 2 + 1,none⟩ = some (.int .i64 x.2):=a 1 _ rfl
      have hsz:=HB.out.size
      have HC:=HPR.out x (List.mem_of_getElem? hxk)
      clear a hcx hxk
      have hlt':(k:Int) < (n:Int):=by omega
      obtain ⟨r,hr⟩:∃ r,p x = r:=⟨_,rfl⟩
      go_wp2_with fail
      refine (HC _ HB.out).mono ?_
      rintro e w1 ⟨rfl,hb1⟩
      rw [hr]
      have HB1:Hid (Below w.heap.size w w1):=HB.out.trans (hb1.mono hsz)
      clear hb1
      cases r with
      | true =>
        have HA:Hid (atI p l = k):=atI_hit HXK.out hr HP.out
        clear hr HC
        go_wp2
        go_ret
        rw [HA.out]
        exact ⟨rfl,HB1.out⟩
      | false =>
        have HP2:Hid (∀ j y,j < k + 1->l[j]? = some y->p y = false):=fun j y hj hy=>by
          by_cases e:j = k
          · subst e
            rw [HXK.out] at hy
            cases hy
            exact hr
          · exact HP.out j y (by omega) hy
        clear hr HC
        go_wp2
        go_roundw
        case rel=>exact ⟨k + 1,by omega,by go_num,HP2,HB1⟩
        case measure=>simp [intOf];omega
    · obtain rfl : k = n := by omega
      have HA:Hid (atI p l = -1):=atI_miss fun j y hj=>HP.out j y (by rw [← HN.out];exact hj)
      go_wp2
      go_ret
      rw [HA.out]
      exact ⟨rfl,HB.out⟩
set_option maxHeartbeats 2000000 in
theorem idxUn (v : Value) (l : List (Int × Int)) (p : (Int × Int) → Bool) (b : Nat) (w : World) (hv : AtW EH w v l)
    (hp:∀ x∈l,∀ V,Below w.heap.size w V->Calls Tryz.prog 95 #[.agg #[.int .i64 x.1,.int .i64 x.2],.pointer (some ⟨b,0,none⟩)] V fun e w'=>e = .returned (.bool (p x))/\Below V.heap.size V w') :
    Calls Tryz.prog 127 #[v,VF 95 b] w fun e w'=>e = .returned (.int .i64 (atI p l))/\Below w.heap.size w w':=by
  obtain ⟨ao,cap,rfl,hm,hx⟩:=hv.open
  clear hv
  unfold maxLen at hm
  obtain ⟨n,hn⟩:∃ n,l.length = n:=⟨_,rfl⟩
  rw [hn] at hm ⊢
  have HN:Hid (l.length = n):=hn
  have HX:Hid (∀ i x,l[i]? = some x->∃ b off,ao = some ⟨b,off,none⟩/\True/\b < w.heap.size/\∀ k u,(EH.cells x)[k]? = some u->w.cell? ⟨b,off + (i * EH.sz + k),none⟩ = some u):=hx
  have HPR:Hid (∀ x∈l,∀ V,Below w.heap.size w V->Calls Tryz.prog 95 #[.agg #[.int .i64 x.1,.int .i64 x.2],.pointer (some ⟨b,0,none⟩)] V fun e w'=>e = .returned (.bool (p x))/\Below V.heap.size V w'):=hp
  clear hn hx hp
  go_enter Tryz.func127,Tryz.ntmps127
  go_wp2
  go_loopw [8] (fun i wr=>∃ k:Nat,k<=n/\i = .int .i64 k/\Hid (∀ j y,j < k->l[j]? = some y->p y = false)/\Hid (Below w.heap.size w wr)) (fun i _=>n - (intOf i).toNat)
  case atStart=>exact ⟨0,Nat.zero_le _,rfl,fun j y hj=>by omega,Below.refl _ _⟩
  case round =>
    obtain ⟨k,hk,rfl,HP,HB⟩:=hrel
    by_cases hlt:k < n
    · obtain ⟨x, hxk⟩ : ∃ x, l[k]? = some x := ⟨_, List.getElem?_eq_getElem (by rw [HN.out]; exact hlt)⟩
      have HXK:Hid (l[k]? = some x):=hxk
      obtain ⟨b2,off,rfl,-,hB,hcx⟩:=HX.out k x hxk
      have a:=fun j u hj=>(HB.out.cell (p:=⟨b2,off + (k * EH.sz + j),none⟩) hB).trans (hcx j u hj)
      have c0:wr.cell? ⟨b2,off + k * 2,none⟩ = some (.int .i64 x.1):=a 0 _ rfl
      have c1:wr.cell? ⟨b2,off + k * 2 + 1,none⟩ = some (.int .i64 x.2):=a 1 _ rfl
      have hsz:=HB.out.size
      have HC:=HPR.out x (List.mem_of_getElem? hxk)
      clear a hcx hxk
      have hlt':(k:Int) < (n:Int):=by omega
      obtain ⟨r,hr⟩:∃ r,p x = r:=⟨_,rfl⟩
      go_wp2_with fail
      refine (HC _ HB.out).mono ?_
      rintro e w1 ⟨rfl,hb1⟩
      rw [hr]
      have HB1:Hid (Below w.heap.size w w1):=HB.out.trans (hb1.mono hsz)
      clear hb1
      cases r with
      | true =>
        have HA:Hid (atI p l = k):=atI_hit HXK.out hr HP.out
        clear hr HC
        go_wp2
        go_ret
        rw [HA.out]
        exact ⟨rfl,HB1.out⟩
      | false =>
        have HP2:Hid (∀ j y,j < k + 1->l[j]? = some y->p y = false):=fun j y hj hy=>by
          by_cases e:j = k
          · subst e
            rw [HXK.out] at hy
            cases hy
            exact hr
          · exact HP.out j y (by omega) hy
        clear hr HC
        go_wp2
        go_roundw
        case rel=>exact ⟨k + 1,by omega,by go_num,HP2,HB1⟩
        case measure=>simp [intOf];omega
    · obtain rfl : k = n := by omega
      have HA:Hid (atI p l = -1):=atI_miss fun j y hj=>HP.out j y (by rw [← HN.out];exact hj)
      go_wp2
      go_ret
      rw [HA.out]
      exact ⟨rfl,HB.out⟩
set_option maxHeartbeats 1000000 in
theorem conUn (v:Value) (l:List (Int × Int)) (p:(Int × Int)->Bool) (b:Nat) (w:World) (hv:AtW EH w v l)
    (hp:∀ x∈l,∀ V,Below w.heap.size w V->Calls Tryz.prog 95 #[.agg #[.int .i64 x.1,.int .i64 x.2],.pointer (some ⟨b,0,none⟩)] V fun e w'=>e = .returned (.bool (p x))/\Below V.heap.size V w') :
    Calls Tryz.prog 98 #[v,VF 95 b] w fun e w'=>e = .returned (.bool (l.any p))/\Below w.heap.size w w':=by
  have HC:Hid (∀ V,w = V->Calls Tryz.prog 127 #[v,VF 95 b] V fun e w'=>e = .returned (.int .i64 (atI p l))/\Below w.heap.size w w'):=fun V h=>by subst h;exact idxUn v l p b w hv hp
  obtain ⟨ao,cap,rfl,hm,hx⟩:=hv.open
  obtain ⟨r,hr⟩:∃ r,atI p l = r:=⟨_,rfl⟩
  rw [← atI_any,hr]
  rw [hr] at HC
  obtain ⟨n,hn⟩:∃ n,l.length = n:=⟨_,rfl⟩
  rw [hn] at HC ⊢
  clear hx hv hp hr hm hn
  go_enter Tryz.func98,Tryz.ntmps98
  go_wp2_with fail
  refine (HC.out _ rfl).mono ?_
  rintro e w1 ⟨rfl,hb1⟩
  have HB1:Hid (Below w.heap.size w w1):=hb1
  clear hb1 HC
  go_wp2
  go_ret
  exact ⟨rfl,HB1.out⟩
set_option maxHeartbeats 2000000 in
theorem idxNo (v : Value) (l : List Os.Opn) (p : Os.Opn → Bool) (b : Nat) (w : World) (hv : AtW Os.EO w v l)
    (hp:∀ x∈l,∀ V,Below w.heap.size w V->Calls Tryz.prog 93 #[.agg #[.int .i64 x.1,.int .i64 x.2.1,.int .i64 x.2.2.1,.int .i64 x.2.2.2],.pointer (some ⟨b,0,none⟩)] V fun e w'=>e = .returned (.bool (p x))/\Below V.heap.size V w') :
    Calls Tryz.prog 126 #[v,VF 93 b] w fun e w'=>e = .returned (.int .i64 (atI p l))/\Below w.heap.size w w':=by
  obtain ⟨ao,cap,rfl,hm,hx⟩:=hv.open
  clear hv
  unfold maxLen at hm
  obtain ⟨n,hn⟩:∃ n,l.length = n:=⟨_,rfl⟩
  rw [hn] at hm ⊢
  have HN:Hid (l.length = n):=hn
  have HX:Hid (∀ i x,l[i]? = some x->∃ b off,ao = some ⟨b,off,none⟩/\True/\b < w.heap.size/\∀ k u,(Os.EO.cells x)[k]? = some u->w.cell? ⟨b,off + (i * Os.EO.sz + k),none⟩ = some u):=hx
  have HPR:Hid (∀ x∈l,∀ V,Below w.heap.size w V->Calls Tryz.prog 93 #[.agg #[.int .i64 x.1,.int .i64 x.2.1,.int .i64 x.2.2.1,.int .i64 x.2.2.2],.pointer (some ⟨b,0,none⟩)] V fun e w'=>e = .returned (.bool (p x))/\Below V.heap.size V w'):=hp
  clear hn hx hp
  go_enter Tryz.func126,Tryz.ntmps126
  go_wp2
  go_loopw [8] (fun i wr=>∃ k:Nat,k<=n/\i = .int .i64 k/\Hid (∀ j y,j < k->l[j]? = some y->p y = false)/\Hid (Below w.heap.size w wr)) (fun i _=>n - (intOf i).toNat)
  case atStart=>exact ⟨0,Nat.zero_le _,rfl,fun j y hj=>by omega,Below.refl _ _⟩
  case round =>
    obtain ⟨k,hk,rfl,HP,HB⟩:=hrel
    by_cases hlt:k < n
    · obtain ⟨x, hxk⟩ : ∃ x, l[k]? = some x := ⟨_, List.getElem?_eq_getElem (by rw [HN.out]; exact hlt)⟩
      have HXK:Hid (l[k]? = some x):=hxk
      obtain ⟨b2,off,rfl,-,hB,hcx⟩:=HX.out k x hxk
      have a:=fun j u hj=>(HB.out.cell (p:=⟨b2,off + (k * Os.EO.sz + j),none⟩) hB).trans (hcx j u hj)
      have c0:wr.cell? ⟨b2,off + k * 4,none⟩ = some (.int .i64 x.1):=a 0 _ rfl
      have c1:wr.cell? ⟨b2,off + k * 4 + 1,none⟩ = some (.int .i64 x.2.1):=a 1 _ rfl
      have c2:wr.cell? ⟨b2,off + k * 4 + 2,none⟩ = some (.int .i64 x.2.2.1):=a 2 _ rfl
      have c3:wr.cell? ⟨b2,off + k * 4 + 3,none⟩ = some (.int .i64 x.2.2.2):=a 3 _ rfl
      have hsz:=HB.out.size
      have HC:=HPR.out x (List.mem_of_getElem? hxk)
      clear a hcx hxk
      have hlt':(k:Int) < (n:Int):=by omega
      obtain ⟨r,hr⟩:∃ r,p x = r:=⟨_,rfl⟩
      go_wp2_with fail
      refine (HC _ HB.out).mono ?_
      rintro e w1 ⟨rfl,hb1⟩
      rw [hr]
      have HB1:Hid (Below w.heap.size w w1):=HB.out.trans (hb1.mono hsz)
      clear hb1
      cases r with
      | true =>
        have HA:Hid (atI p l = k):=atI_hit HXK.out hr HP.out
        clear hr HC
        go_wp2
        go_ret
        rw [HA.out]
        exact ⟨rfl,HB1.out⟩
      | false =>
        have HP2:Hid (∀ j y,j < k + 1->l[j]? = some y->p y = false):=fun j y hj hy=>by
          by_cases e:j = k
          · subst e
            rw [HXK.out] at hy
            cases hy
            exact hr
          · exact HP.out j y (by omega) hy
        clear hr HC
        go_wp2
        go_roundw
        case rel=>exact ⟨k + 1,by omega,by go_num,HP2,HB1⟩
        case measure=>simp [intOf];omega
    · obtain rfl : k = n := by omega
      have HA:Hid (atI p l = -1):=atI_miss fun j y hj=>HP.out j y (by rw [← HN.out];exact hj)
      go_wp2
      go_ret
      rw [HA.out]
      exact ⟨rfl,HB.out⟩
set_option maxHeartbeats 1000000 in
theorem conNo (v:Value) (l:List Os.Opn) (p:Os.Opn->Bool) (b:Nat) (w:World) (hv:AtW Os.EO w v l)
    (hp:∀ x∈l,∀ V,Below w.heap.size w V->Calls Tryz.prog 93 #[.agg #[.int .i64 x.1,.int .i64 x.2.1,.int .i64 x.2.2.1,.int .i64 x.2.2.2],.pointer (some ⟨b,0,none⟩)] V fun e w'=>e = .returned (.bool (p x))/\Below V.heap.size V w') :
    Calls Tryz.prog 97 #[v,VF 93 b] w fun e w'=>e = .returned (.bool (l.any p))/\Below w.heap.size w w':=by
  have HC:Hid (∀ V,w = V->Calls Tryz.prog 126 #[v,VF 93 b] V fun e w'=>e = .returned (.int .i64 (atI p l))/\Below w.heap.size w w'):=fun V h=>by subst h;exact idxNo v l p b w hv hp
  obtain ⟨ao,cap,rfl,hm,hx⟩:=hv.open
  obtain ⟨r,hr⟩:∃ r,atI p l = r:=⟨_,rfl⟩
  rw [← atI_any,hr]
  rw [hr] at HC
  obtain ⟨n,hn⟩:∃ n,l.length = n:=⟨_,rfl⟩
  rw [hn] at HC ⊢
  clear hx hv hp hr hm hn
  go_enter Tryz.func97,Tryz.ntmps97
  go_wp2_with fail
  refine (HC.out _ rfl).mono ?_
  rintro e w1 ⟨rfl,hb1⟩
  have HB1:Hid (Below w.heap.size w w1):=hb1
  clear hb1 HC
  go_wp2
  go_ret
  exact ⟨rfl,HB1.out⟩
set_option maxHeartbeats 2000000 in
theorem idxLa (v : Value) (l : List Rw) (p : Rw → Bool) (b : Nat) (w : World) (hv : AtW EI w v l)
    (hp:∀ x∈l,∀ V,Below w.heap.size w V->Calls Tryz.prog 100 #[VI x,.pointer (some ⟨b,0,none⟩)] V fun e w'=>e = .returned (.bool (p x))/\Below V.heap.size V w') :
    Calls Tryz.prog 128 #[v,VF 100 b] w fun e w'=>e = .returned (.int .i64 (atI p l))/\Below w.heap.size w w':=by
  obtain ⟨ao,cap,rfl,hm,hx⟩:=hv.open
  clear hv
  unfold maxLen at hm
  obtain ⟨n,hn⟩:∃ n,l.length = n:=⟨_,rfl⟩
  rw [hn] at hm ⊢
  have HN:Hid (l.length = n):=hn
  have HX:Hid (∀ i x,l[i]? = some x->∃ b off,ao = some ⟨b,off,none⟩/\True/\b < w.heap.size/\∀ k u,(EI.cells x)[k]? = some u->w.cell? ⟨b,off + (i * EI.sz + k),none⟩ = some u):=hx
  have HPR:Hid (∀ x∈l,∀ V,Below w.heap.size w V->Calls Tryz.prog 100 #[VI x,.pointer (some ⟨b,0,none⟩)] V fun e w'=>e = .returned (.bool (p x))/\Below V.heap.size V w'):=hp
  clear hn hx hp
  go_enter Tryz.func128,Tryz.ntmps128
  go_wp2
  go_loopw [8] (fun i wr=>∃ k:Nat,k<=n/\i = .int .i64 k/\Hid (∀ j y,j < k->l[j]? = some y->p y = false)/\Hid (Below w.heap.size w wr)) (fun i _=>n - (intOf i).toNat)
  case atStart=>exact ⟨0,Nat.zero_le _,rfl,fun j y hj=>by omega,Below.refl _ _⟩
  case round =>
    obtain ⟨k,hk,rfl,HP,HB⟩:=hrel
    by_cases hlt:k < n
    · obtain ⟨x, hxk⟩ : ∃ x, l[k]? = some x := ⟨_, List.getElem?_eq_getElem (by rw [HN.out]; exact hlt)⟩
      have HXK:Hid (l[k]? = some x):=hxk
      obtain ⟨b2,off,rfl,-,hB,hcx⟩:=HX.out k x hxk
      have a:=fun j u hj=>(HB.out.cell (p:=⟨b2,off + (k * EI.sz + j),none⟩) hB).trans (hcx j u hj)
      have c0:wr.cell? ⟨b2,off + k * 8,none⟩ = some (.int .i64 x.i.gen):=a 0 _ rfl
      have c1:wr.cell? ⟨b2,off + k * 8 + 1,none⟩ = some (.int .i64 x.i.kind):=a 1 _ rfl
      have c2:wr.cell? ⟨b2,off + k * 8 + 2,none⟩ = some (.int .i64 x.i.links):=a 2 _ rfl
      have c3:wr.cell? ⟨b2,off + k * 8 + 3,none⟩ = some (.int .i64 x.i.size):=a 3 _ rfl
      have c4:wr.cell? ⟨b2,off + k * 8 + 4,none⟩ = some (.int .i64 x.i.stamp):=a 4 _ rfl
      have c5:wr.cell? ⟨b2,off + k * 8 + 5,none⟩ = some (.slice x.rp x.rn x.rc):=a 5 _ rfl
      have c6:wr.cell? ⟨b2,off + k * 8 + 6,none⟩ = some (.slice x.ep x.en x.ec):=a 6 _ rfl
      have c7:wr.cell? ⟨b2,off + k * 8 + 7,none⟩ = some (.int .i64 x.i.next):=a 7 _ rfl
      have hsz:=HB.out.size
      have HC:=HPR.out x (List.mem_of_getElem? hxk)
      clear a hcx hxk
      have hlt':(k:Int) < (n:Int):=by omega
      obtain ⟨r,hr⟩:∃ r,p x = r:=⟨_,rfl⟩
      go_wp2_with fail
      refine (HC _ HB.out).mono ?_
      rintro e w1 ⟨rfl,hb1⟩
      rw [hr]
      have HB1:Hid (Below w.heap.size w w1):=HB.out.trans (hb1.mono hsz)
      clear hb1
      cases r with
      | true =>
        have HA:Hid (atI p l = k):=atI_hit HXK.out hr HP.out
        clear hr HC
        go_wp2
        go_ret
        rw [HA.out]
        exact ⟨rfl,HB1.out⟩
      | false =>
        have HP2:Hid (∀ j y,j < k + 1->l[j]? = some y->p y = false):=fun j y hj hy=>by
          by_cases e:j = k
          · subst e
            rw [HXK.out] at hy
            cases hy
            exact hr
          · exact HP.out j y (by omega) hy
        clear hr HC
        go_wp2
        go_roundw
        case rel=>exact ⟨k + 1,by omega,by go_num,HP2,HB1⟩
        case measure=>simp [intOf];omega
    · obtain rfl : k = n := by omega
      have HA:Hid (atI p l = -1):=atI_miss fun j y hj=>HP.out j y (by rw [← HN.out];exact hj)
      go_wp2
      go_ret
      rw [HA.out]
      exact ⟨rfl,HB.out⟩
set_option maxHeartbeats 1000000 in
theorem conLa (v:Value) (l:List Rw) (p:Rw->Bool) (b:Nat) (w:World) (hv:AtW EI w v l)
    (hp:∀ x∈l,∀ V,Below w.heap.size w V->Calls Tryz.prog 100 #[VI x,.pointer (some ⟨b,0,none⟩)] V fun e w'=>e = .returned (.bool (p x))/\Below V.heap.size V w') :
    Calls Tryz.prog 102 #[v,VF 100 b] w fun e w'=>e = .returned (.bool (l.any p))/\Below w.heap.size w w':=by
  have HC:Hid (∀ V,w = V->Calls Tryz.prog 128 #[v,VF 100 b] V fun e w'=>e = .returned (.int .i64 (atI p l))/\Below w.heap.size w w'):=fun V h=>by subst h;exact idxLa v l p b w hv hp
  obtain ⟨ao,cap,rfl,hm,hx⟩:=hv.open
  obtain ⟨r,hr⟩:∃ r,atI p l = r:=⟨_,rfl⟩
  rw [← atI_any,hr]
  rw [hr] at HC
  obtain ⟨n,hn⟩:∃ n,l.length = n:=⟨_,rfl⟩
  rw [hn] at HC ⊢
  clear hx hv hp hr hm hn
  go_enter Tryz.func102,Tryz.ntmps102
  go_wp2_with fail
  refine (HC.out _ rfl).mono ?_
  rintro e w1 ⟨rfl,hb1⟩
  have HB1:Hid (Below w.heap.size w w1):=hb1
  clear hb1 HC
  go_wp2
  go_ret
  exact ⟨rfl,HB1.out⟩
end Go.Proofs.YtggoccfddnpelaaGreat
namespace Go.Proofs.YtggoccfddnpelaaGreat
open Go.ChangeShapes Go.WideShapes Go.ChangeAt Go.RowKit Go.Deep
set_option maxRecDepth 100000
namespace Fo
abbrev sa:ByteArray:=⟨#[97]⟩
abbrev sb:ByteArray:=⟨#[98]⟩
abbrev ea:Ent:=(sa,1,1,1)
abbrev eb:Ent:=(sb,2,1,1)
theorem aa:called sa ea = true:=by simp [called]
theorem bb:called sb eb = true:=by simp [called]
end Fo
theorem small (x:Ent) (l:List Ent) (h:x.1.size<=32/\∀ y∈l,y.1.size<=32):∀ y∈x :: l,y.1.size<=maxLen:=fun y hy=>by
  rcases List.mem_cons.1 hy with rfl | hy
  · exact Nat.le_trans h.1 (by decide)
  · exact Nat.le_trans (h.2 y hy) (by decide)
set_option maxHeartbeats 1000000 in
theorem rname_any (s : ByteArray) (w : World) (hm : s.size ≤ maxLen) : Calls Tryz.prog 143 #[.string s] w fun e w' => e = .returned (.int .i64 (Nm.err s)) ∧ w' = w := by
  unfold maxLen at hm
  by_cases h1:s.size < 1
  · have H : Hid (Nm.err s = 409) := Nm.err_no fun h => by have := h.1; omega
    rw [H.out]
    have h1':(s.size:Int) < 1:=by omega
    go_enter Tryz.func143,Tryz.ntmps143
    go_wp2
    go_ret
    exact ⟨rfl,rfl⟩
  by_cases h2:32 < s.size
  · have H : Hid (Nm.err s = 409) := Nm.err_no fun h => by have := h.2.1; omega
    rw [H.out]
    have h1':¬ (s.size:Int) < 1:=by omega
    have h2':(32:Int) < (s.size:Int):=by omega
    go_enter Tryz.func143,Tryz.ntmps143
    go_wp2
    go_ret
    exact ⟨rfl,rfl⟩
  by_cases h3:s = ⟨#[46]⟩
  · have H : Hid (Nm.err s = 409) := Nm.err_no fun h => h.2.2.1 h3
    rw [H.out]
    subst h3
    go_enter Tryz.func143,Tryz.ntmps143
    go_wp2
    go_ret
    exact ⟨rfl,rfl⟩
  by_cases h4:s = ⟨#[46,46]⟩
  · have H : Hid (Nm.err s = 409) := Nm.err_no fun h => h.2.2.2.1 h4
    rw [H.out]
    subst h4
    go_enter Tryz.func143,Tryz.ntmps143
    go_wp2
    go_ret
    exact ⟨rfl,rfl⟩
  have H2:Hid (1<=s.size/\s.size<=32/\s≠⟨#[46]⟩/\s≠⟨#[46,46]⟩):=⟨by omega,by omega,h3,h4⟩
  have e2:(s.toList == [46]) = false:=beq_eq_false_iff_ne.2 (toList_ne h3)
  have e3:(s.toList == [46,46]) = false:=beq_eq_false_iff_ne.2 (toList_ne h4)
  have g1:¬ (s.size:Int) < 1:=by omega
  have g2:¬ (32:Int) < (s.size:Int):=by omega
  clear h1 h2 h3 h4
  go_enter Tryz.func143,Tryz.ntmps143
  go_wp2
  go_loopw [3] (fun i wr=>∃ k:Nat,k<=s.size/\i = .int .i64 k/\wr = w/\Hid (Nm.clean s k)) (fun i _=>s.size - (intOf i).toNat)
  case atStart=>exact ⟨0,Nat.zero_le _,rfl,rfl,Nm.clean_zero s⟩
  case round =>
    obtain ⟨k,hk,rfl,rfl,HC⟩:=hrel
    by_cases hlt:k < s.size
    · have hlt' : (k : Int) < (s.size : Int) := by omega
      obtain ⟨c,hc⟩:∃ c,s[k]'hlt = c:=⟨_,rfl⟩
      by_cases c1:c.toNat = 47
      · have H : Hid (Nm.err s = 409) := Nm.err_no (Nm.clean_bad hlt (.inl (by rw [hc]; exact c1)))
        have c1':((c.toNat:Int) == 47) = true:=by simp [c1]
        go_wp2
        go_ret
        rw [H.out]
        exact ⟨rfl,rfl⟩
      · have c1' : ((c.toNat : Int) == 47) = false := beq_eq_false_iff_ne.2 (by omega)
        by_cases c0:c.toNat = 0
        · have H : Hid (Nm.err s = 409) := Nm.err_no (Nm.clean_bad hlt (.inr (by rw [hc]; exact c0)))
          have c0':((c.toNat:Int) == 0) = true:=by simp [c0]
          go_wp2
          go_ret
          rw [H.out]
          exact ⟨rfl,rfl⟩
        · have c0' : ((c.toNat : Int) == 0) = false := beq_eq_false_iff_ne.2 (by omega)
          have HC2:Hid (Nm.clean s (k + 1)):=Nm.clean_succ hlt HC.out (by rw [hc];exact c1) (by rw [hc];exact c0)
          go_wp2
          go_roundw
          case rel=>exact ⟨k + 1,by omega,by go_num,trivial,HC2⟩
          case measure=>simp [intOf];omega
    · have H : Hid (Nm.err s = 0) := Nm.err_ok ⟨H2.out.1, H2.out.2.1, H2.out.2.2.1, H2.out.2.2.2, by
        have:=HC.out
        rwa [show k = s.size by omega] at this⟩
      have hlt':¬ (k:Int) < (s.size:Int):=by omega
      go_wp2
      go_ret
      rw [H.out]
      exact ⟨rfl,rfl⟩
theorem rto_any (no gen : Int) (w : World) : Calls Tryz.prog 111 #[VHf no gen] w fun e w' => e = .returned (.bool (decide (Ho no gen))) ∧ w' = w.alloc (BHf no gen) := by
  by_cases h1:0<=no
  · by_cases h2 : no < 24
    · by_cases h3 : 1 ≤ gen
      · by_cases h4 : gen ≤ 1099511627776
        · rw [decide_eq_true (show Ho no gen from ⟨⟨h1, by omega⟩, h3, h4⟩)]
          go_enter Tryz.func111,Tryz.ntmps111
          go_wp2
          go_ret
          exact ⟨rfl,rfl⟩
        · rw [decide_eq_false (show ¬ Ho no gen from fun h => h4 h.2.2)]
          go_enter Tryz.func111,Tryz.ntmps111
          go_wp2
          go_ret
          exact ⟨rfl,rfl⟩
      · rw [decide_eq_false (show ¬ Ho no gen from fun h => h3 h.2.1)]
        go_enter Tryz.func111,Tryz.ntmps111
        go_wp2
        go_ret
        exact ⟨rfl,rfl⟩
    · rw [decide_eq_false (show ¬ Ho no gen from fun h => h2 (by have := h.1.2; omega))]
      go_enter Tryz.func111,Tryz.ntmps111
      go_wp2
      go_ret
      exact ⟨rfl,rfl⟩
  · rw [decide_eq_false (show ¬ Ho no gen from fun h => h1 h.1.1)]
    go_enter Tryz.func111,Tryz.ntmps111
    go_wp2
    go_ret
    exact ⟨rfl,rfl⟩
set_option maxHeartbeats 1000000 in
theorem rplace_any (v : Value) (l : List Ent) (s : ByteArray) (w : World) (hv : AtW EE w v l) :
    Calls Tryz.prog 144 #[v,.string s] w fun e w'=>e = .returned (.int .i64 (Fo.at' (Fo.called s) l))/\Below w.heap.size w w':=by
  obtain ⟨ao,cap,rfl,hm,hx⟩:=hv.open
  clear hv
  unfold maxLen at hm
  obtain ⟨n,hn⟩:∃ n,l.length = n:=⟨_,rfl⟩
  rw [hn] at hm ⊢
  have HN:Hid (l.length = n):=hn
  have HX:Hid (∀ i x,l[i]? = some x->∃ b off,ao = some ⟨b,off,none⟩/\True/\b < w.heap.size/\∀ k u,(EE.cells x)[k]? = some u->w.cell? ⟨b,off + (i * EE.sz + k),none⟩ = some u):=hx
  clear hn hx
  go_enter Tryz.func144,Tryz.ntmps144
  go_wp2
  go_loopw [9] (fun i wr=>∃ k:Nat,k<=n/\i = .int .i64 k/\Hid (∀ j y,j < k->l[j]? = some y->Fo.called s y = false)/\Hid (Below w.heap.size w wr)) (fun i _=>n - (intOf i).toNat)
  case atStart=>exact ⟨0,Nat.zero_le _,rfl,fun j y hj=>by omega,Below.refl _ _⟩
  case round =>
    obtain ⟨k,hk,rfl,HP,HB⟩:=hrel
    by_cases hlt:k < n
    · obtain ⟨x, hxk⟩ : ∃ x, l[k]? = some x := ⟨_, List.getElem?_eq_getElem (by rw [HN.out]; exact hlt)⟩
      have HXK:Hid (l[k]? = some x):=hxk
      obtain ⟨b2,off,rfl,-,hB,hcx⟩:=HX.out k x hxk
      have a:=fun j u hj=>(HB.out.cell (p:=⟨b2,off + (k * EE.sz + j),none⟩) hB).trans (hcx j u hj)
      have c0:wr.cell? ⟨b2,off + k * 4,none⟩ = some (.string x.1):=a 0 _ rfl
      have c1:wr.cell? ⟨b2,off + k * 4 + 1,none⟩ = some (.int .i64 x.2.1):=a 1 _ rfl
      have c2:wr.cell? ⟨b2,off + k * 4 + 2,none⟩ = some (.int .i64 x.2.2.1):=a 2 _ rfl
      have c3:wr.cell? ⟨b2,off + k * 4 + 3,none⟩ = some (.int .i64 x.2.2.2):=a 3 _ rfl
      have hsz:=HB.out.size
      clear a hcx hxk
      have hlt':(k:Int) < (n:Int):=by omega
      cases hp:Fo.called s x with
      | true =>
        have HA:Hid (Fo.at' (Fo.called s) l = k):=Fo.at_hit HXK.out hp HP.out
        have ht:(x.1.toList == s.toList) = true:=hp
        clear hp
        go_wp2
        go_ret
        rw [HA.out]
        exact ⟨rfl,HB.out.alloc hsz _⟩
      | false =>
        have HP2:Hid (∀ j y,j < k + 1->l[j]? = some y->Fo.called s y = false):=fun j y hj hy=>by
          by_cases e:j = k
          · subst e
            rw [HXK.out] at hy
            cases hy
            exact hp
          · exact HP.out j y (by omega) hy
        have ht:(x.1.toList == s.toList) = false:=hp
        clear hp
        go_wp2
        go_roundw
        case rel=>exact ⟨k + 1,by omega,by go_num,HP2,HB.out.alloc hsz _⟩
        case measure=>simp [intOf];omega
    · obtain rfl : k = n := by omega
      have HA:Hid (Fo.at' (Fo.called s) l = -1):=Fo.at_miss fun j y hj=>HP.out j y (by rw [← HN.out];exact hj)
      go_wp2
      go_ret
      rw [HA.out]
      exact ⟨rfl,HB.out⟩
end Go.Proofs.YtggoccfddnpelaaGreat
