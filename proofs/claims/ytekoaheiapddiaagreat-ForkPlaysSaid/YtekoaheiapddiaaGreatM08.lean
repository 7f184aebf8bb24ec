/- Merged: P9, P10, P11. -/
import Derived.Test.YtekoaheiapddiaaGreatM07
import Derived.BigQuiet
import Derived.Laws.AppendOwnNone
import Derived.Maps.AppendAt
section
namespace Go.Proofs.YtekoaheiapddiaaGreat.Dz
section
open Go.RowKit
def cellsE : List Ent→List Value
 | []=>[]
 | e :: r=>.string (str e.name) :: .string (str e.bs) :: .int .i64 (e.syn : Nat) :: cellsE r
theorem cellsE_len (L:List Ent) : (cellsE L).length=3*L.length:=by
 induction L with
 | nil=>rfl
 | cons e r ih=>simp only [cellsE,List.length_cons,ih]; omega
theorem cellsE_app (L M : List Ent) : cellsE (L ++ M)=cellsE L ++ cellsE M:=by
 induction L with
 | nil=>rfl
 | cons e r ih=>simp [cellsE,ih]
theorem cellsE_get {L : List Ent} {k : Nat} {e : Ent} (h:L[k]?=some e) : (cellsE L)[k*3]?=some (.string (str e.name))∧(cellsE L)[k*3+1]?=some (.string (str e.bs))∧(cellsE L)[k*3+2]?=some (.int .i64 (e.syn : Nat)):=by
 induction L generalizing k with
 | nil=>simp at h
 | cons x r ih=>
  cases k with
  | zero=>simp at h; subst h; exact⟨rfl,rfl,rfl⟩
  | succ k=>
   simp at h
   obtain⟨h1,h2,h3⟩:=ih h
   exact⟨by rw [show (k+1)*3=k*3+1+1+1 by omega]; simpa [cellsE] using h1,by rw [show (k+1)*3+1=k*3+1+1+1+1 by omega]; simpa [cellsE] using h2,by rw [show (k+1)*3+2=k*3+2+1+1+1 by omega]; simpa [cellsE] using h3⟩
theorem usedE_snoc (L:List Ent) (e:Ent) : usedE (L ++ [e])=usedE L+e.bs.length:=by
 induction L with
 | nil=>simp [usedE]
 | cons x r ih=>simp only [List.cons_append,usedE,ih]; omega
def findE : List Ent→Nm→Nat×Bool
 | [],_=>(0,false)
 | x :: r,s=>if x.name<s then ((findE r s).1+1,(findE r s).2) else (0,decide (x.name=s))
structure Rk (p:Pd) (b:Nat) (v:Value) (B:Nat) (W:World) : Prop where
 cell : W.heap[b]?=some (.cells #[v,.int .i64 (p.room : Nat),.int .i64 (max p.after (-1)),.int .i64 p.torn,.bool p.dead] 108 (0,0))
 row : W.ownsRow B 258 3 v p.L.length (cellsE p.L)
 ge : B≤b
 few : p.L.length≤1000000
section
variable {p : Pd} {b B : Nat} {v : Value} {W : World}
theorem own3_any {n : Nat} {xs : List Value} (h:W.ownsRow B 258 3 v n xs) : ∃ a c,v=.slice a n c:=by
 rcases h.2 with ⟨rfl,rfl⟩ | ⟨g,cap,cur,rfl,_⟩
 ·exact⟨_,_,rfl⟩
 ·exact⟨_,_,rfl⟩
theorem own3_keep {W' : World} {n : Nat} {xs : List Value} (h:W.ownsRow B 258 3 v n xs) (hb:∀ k,v.ownBlock=some k→W'.heap[k]?=W.heap[k]?) : W'.ownsRow B 258 3 v n xs:=by
 refine⟨h.1,?_⟩
 rcases h.2 with h0 | ⟨g,cap,cur,rfl,hbg,hg,rest⟩
 ·exact Or.inl h0
 ·exact Or.inr ⟨g,cap,cur,rfl,hbg,(hb g rfl).trans hg,rest⟩
theorem own3_ptr {n : Nat} {xs : List Value} (h:W.ownsRow B 258 3 v n xs) (hn:0<n) : ∃ g c,v=.slice (some ⟨g,0,none⟩) n c∧n≤c:=by
 rcases h.2 with ⟨_,h0⟩ | ⟨g,cap,cur,rfl,_,_,hc,_⟩
 ·omega
 ·exact⟨g,cap,rfl,hc⟩
theorem own3_cell {n g c : Nat} {xs : List Value} (h:W.ownsRow B 258 3 (.slice (some ⟨g,0,none⟩) n c) n xs) {j : Nat} {u : Value} (hj:xs[j]?=some u) : W.cell? ⟨g,j,none⟩=some u:=by
 have h1:=h.cells (g:=g) rfl j u hj
 have e : (⟨g,0,none⟩ : Addr).add j=⟨g,j,none⟩:=by unfold Addr.add; split <;> simp_all
 rwa [e] at h1
theorem Rk.reads (h:Rk p b v B W) : (W.cell? ⟨b,0,none⟩=some v∧W.cell? ⟨b,1,none⟩=some (.int .i64 (p.room : Nat))∧W.cell? ⟨b,2,none⟩=some (.int .i64 (max p.after (-1)))∧W.cell? ⟨b,3,none⟩=some (.int .i64 p.torn)∧W.cell? ⟨b,4,none⟩=some (.bool p.dead))∧∀ j,W.frozen? ⟨b,j,none⟩=false:=
 ⟨⟨cell_of h.cell 0,cell_of h.cell 1,cell_of h.cell 2,cell_of h.cell 3,cell_of h.cell 4⟩,fun j=>free_of h.cell j⟩
theorem Rk.kept {W' : World} (h:Rk p b v B W) (h1:W'.heap[b]?=W.heap[b]?) (h2:∀ k,v.ownBlock=some k→W'.heap[k]?=W.heap[k]?) : Rk p b v B W':=⟨h1.trans h.cell,own3_keep h.row h2,h.ge,h.few⟩
def Rk.ft (b:Nat) (v:Value) (k:Nat) : Prop:=k=b∨v.ownBlock=some k
theorem own3_block {n : Nat} {xs : List Value} (h:W.ownsRow B 258 3 v n xs) {k : Nat} (hk:v.ownBlock=some k) : ∃ cs,W.heap[k]?=some (.cells cs 258 (0,0)):=by
 rcases h.2 with ⟨rfl,_⟩ | ⟨g,cap,cur,rfl,_,hg,_⟩
 ·cases hk
 ·cases hk; exact⟨_,hg⟩
theorem Rk.ne (h:Rk p b v B W) {k : Nat} (hk:v.ownBlock=some k) : k≠b:=fun e=>by
 obtain⟨cs,hg⟩:=own3_block h.row hk
 rw [e,h.cell] at hg
 injection hg with hg
 injection hg with _ hg
 exact absurd hg (by decide)
theorem Rk.set (h:Rk p b v B W) (j:Nat) (u:Value) (q:Pd) (hL:q.L=p.L)
  (hc:(#[v,.int .i64 (p.room : Nat),.int .i64 (max p.after (-1)),.int .i64 p.torn,.bool p.dead] : Array Value).setIfInBounds j u=#[v,.int .i64 (q.room : Nat),.int .i64 (max q.after (-1)),.int .i64 q.torn,.bool q.dead]) :
  Rk q b v B (W.setCell ⟨b,j,none⟩ u)∧Chg (Rk.ft b v) (Rk.ft b v) W (W.setCell ⟨b,j,none⟩ u):=by
 have hk : ∀ k,k≠b→(W.setCell ⟨b,j,none⟩ u).heap[k]?=W.heap[k]?:=fun k hk=>heap_setCell_other _ _ _ _ (by simpa using hk)
 refine⟨⟨?_,?_,h.ge,hL ▸ h.few⟩,⟨rfl,rfl,rfl,by simp [World.setCell],fun k _ hn=>hk k (fun e=>hn (Or.inl e)),fun k hk=>Or.inl hk⟩⟩
 ·rw [← hc]; exact heap_setCell_same _ _ _ _ _ _ h.cell
 ·rw [hL]; exact own3_keep h.row fun k hb=>hk k (h.ne hb)
def CrashR (p:Pd) (c:Int) (q:Pd) : Prop:=(p.dead=true∧c=2∧q=p)∨(p.dead=false∧p.after=0∧c=1∧q=p.die)∨(p.dead=false∧p.after≠0∧c=0∧q=p.tick)
def CrashQ (p:Pd) (b:Nat) (v:Value) (B:Nat) (W:World) (e:Ending) (W' : World) : Prop:=∃ c q,e=.returned (.int .i64 c)∧Rk q b v B W'∧Chg (Rk.ft b v) (Rk.ft b v) W W'∧CrashR p c q
theorem CrashQ.mk {W' : World} {e : Ending} (c:Int) (q:Pd) (h1:e=.returned (.int .i64 c)) (h2:Rk q b v B W') (h3:Chg (Rk.ft b v) (Rk.ft b v) W W') (h4:CrashR p c q) : CrashQ p b v B W e W':=⟨c,q,h1,h2,h3,h4⟩
set_option maxRecDepth 100000 in
theorem crashes_c (h:Rk p b v B W) (hp:p.Ok) : Calls Tryz.prog 235 #[.pointer (some ⟨b,0,none⟩)] W fun e W'=>CrashQ p b v B W e W':=by
 obtain⟨⟨_,_,c2,_,c4⟩,f⟩:=h.reads
 have f2:=f 2
 have f4:=f 4
 cases hd : p.dead with
 | true=>
  rw [hd] at c4
  have H:=Lib.hid (And.intro h hd)
  clear h hp f c2
  go_enter Tryz.func235,Tryz.ntmps235
  go_wp2_with fail
  go_ret
  exact CrashQ.mk 2 p rfl H.out.1 (Chg.refl _ _) (Or.inl ⟨H.out.2,rfl,rfl⟩)
 | false=>
  rw [hd] at c4
  by_cases ha : p.after=0
  ·have hs:=Lib.hid (h.set 4 (.bool true) p.die rfl (by rfl))
   rw [show max p.after (-1)=0 by rw [ha]; decide] at c2
   have HA:=Lib.hid (And.intro hd ha)
   clear h hp f ha
   go_enter Tryz.func235,Tryz.ntmps235
   go_wp2_with fail
   go_ret
   exact CrashQ.mk 1 _ rfl hs.out.1 hs.out.2 (Or.inr (Or.inl ⟨HA.out.1,HA.out.2,rfl,rfl⟩))
  ·by_cases hpos : 0<p.after
   ·have hm : max p.after (-1)=p.after:=by omega
    have hs:=h.set 2 (.int .i64 (p.after-1)) p.tick rfl (by
      have e : max p.tick.after (-1)=p.after-1:=by show max (if 0<p.after then p.after-1 else p.after) (-1)=_; rw [if_pos hpos]; omega
      rw [e]; rfl)
    rw [hm] at c2
    have HS:=Lib.hid (And.intro hs (And.intro ha hd))
    have hr:=hp.after
    clear h hp f hs hm ha
    obtain⟨k,hkk⟩ : ∃ k,k=p.after:=⟨_,rfl⟩
    rw [← hkk] at c2 HS hr hpos
    have HK:=Lib.hid hkk
    clear hkk
    have hw : IntKind.i64.wrap (k-1)=k-1:=IntWalk.i64_in _ (by omega)
    go_enter Tryz.func235,Tryz.ntmps235
    go_wp2_with fail
    go_ret
    exact CrashQ.mk 0 _ rfl HS.out.1.1 HS.out.1.2 (Or.inr (Or.inr ⟨HS.out.2.2,fun h=>HS.out.2.1 (HK.out.trans h),rfl,rfl⟩))
   ·have hm : max p.after (-1)=-1:=by omega
    rw [hm] at c2
    have ht : p.tick=p:=by
     cases p
     simp only [Pd.tick] at *
     rw [if_neg hpos]
    have H:=Lib.hid (And.intro h (And.intro ha (And.intro ht hd)))
    clear h hp f hm ha ht
    go_enter Tryz.func235,Tryz.ntmps235
    go_wp2_with fail
    go_ret
    exact CrashQ.mk 0 p rfl H.out.1 (Chg.refl _ _) (Or.inr (Or.inr ⟨H.out.2.2.2,H.out.2.1,rfl,H.out.2.2.1.symm⟩))
set_option maxRecDepth 100000 in
set_option maxHeartbeats 1000000 in
theorem pused_c (h:Rk p b v B W) (hp:p.Ok) : Calls Tryz.prog 236 #[.pointer (some ⟨b,0,none⟩)] W fun e W'=>e=.returned (.int .i64 (usedE p.L : Nat))∧W'=W:=by
 obtain⟨⟨c0,_⟩,_⟩:=h.reads
 obtain⟨va,vc,rfl⟩:=own3_any h.row
 have H:=Lib.hid (And.intro h hp)
 have HU:=Lib.hid (fun k=>show usedE (p.L.take k)≤1048576 by
   have h1:=hp.used
   have h2:=hp.room
   have : usedE (p.L.take k)≤usedE p.L:=by
     clear h hp c0 h1 h2
     induction p.L generalizing k with
     | nil=>simp [usedE]
     | cons x r ih=>cases k with
       | zero=>simp [usedE]
       | succ k=>have:=ih k; simp only [List.take_succ_cons,usedE]; omega
   omega)
 clear h hp
 go_enter Tryz.func236,Tryz.ntmps236
 go_wp2_with fail
 go_loop [3,4] (fun u i=>∃ k : Nat,k≤p.L.length∧i=.int .i64 k∧u=.int .i64 (usedE (p.L.take k) : Nat)) (fun _ i=>p.L.length-(intOf i).toNat)
 case atStart=>exact⟨0,by omega,rfl,rfl⟩
 case round=>
  obtain⟨k,hk,rfl,rfl⟩:=hrel
  by_cases hlt : k<p.L.length
  ·obtain⟨e,he⟩ : ∃ e,p.L[k]?=some e:=⟨_,List.getElem?_eq_getElem hlt⟩
   obtain⟨g,c,hv,hgc⟩:=own3_ptr H.out.1.row (by omega)
   cases hv
   have d1:=own3_cell H.out.1.row (cellsE_get he).2.1
   have hs : usedE (p.L.take (k+1))=usedE (p.L.take k)+e.bs.length:=by
    rw [List.take_add_one,he,Option.toList]
    exact usedE_snoc _ _
   have hu:=HU.out k
   have hu1:=HU.out (k+1)
   have HE:=Lib.hid hs
   have hsz:=str_size e.bs
   have hlti : (k:Int)<(p.L.length : Int):=by omega
   have hci : (p.L.length : Int)≤(vc:Int):=by omega
   have hk0 : (0:Int)≤(k:Int):=by omega
   have hn : p.L.length≤1000000:=H.out.1.few
   have hw : IntKind.i64.wrap ((k:Int)+1)=(k:Int)+1:=IntWalk.i64_in _ (by omega)
   rw [hs] at hu1
   clear hs he HU
   generalize usedE (p.L.take k)=u at *
   have hw2 : IntKind.i64.wrap ((u:Int)+(e.bs.length : Int))=(u:Int)+(e.bs.length : Int):=IntWalk.i64_in _ (by omega)
   go_wp2_with fail
   go_round
   case rel=>exact⟨k+1,by omega,by go_num,by rw [HE.out]; simp⟩
   case measure=>simp [intOf]; omega
  ·obtain rfl : k=p.L.length:=by omega
   rw [List.take_length]
   clear HU
   go_wp2_with fail
   go_ret
   exact⟨rfl,rfl⟩
end
end
section
open Go.RowKit
theorem findE_le (L:List Ent) (s:Nm) : (findE L s).1≤L.length:=by
 induction L with
 | nil=>simp [findE]
 | cons x r ih=>simp only [findE]; split <;> simp <;> omega
theorem findE_there {L : List Ent} {s : Nm} (h:(findE L s).2=true) : ∃ e,L[(findE L s).1]?=some e∧getE L s=some e:=by
 induction L with
 | nil=>cases h
 | cons x r ih=>
  simp only [findE] at h ⊢
  split at h
  ·rename_i hx
   rw [if_pos hx]
   obtain⟨e,h1,h2⟩:=ih h
   refine⟨e,by simpa using h1,?_⟩
   simp only [getE]
   rw [if_neg (fun k=>by rw [k] at hx; exact nlt _ hx)]
   exact h2
  ·rename_i hx
   rw [if_neg hx]
   have h' : x.name=s:=by simpa using h
   exact⟨x,rfl,by simp only [getE]; rw [if_pos h']⟩
theorem findE_gone {L : List Ent} (hU:Up L) {s : Nm} (h:(findE L s).2=false) : getE L s=none:=by
 induction L with
 | nil=>rfl
 | cons x r ih=>
  simp only [findE] at h
  split at h
  ·rename_i hx
   simp only [getE]
   rw [if_neg (fun k=>by rw [k] at hx; exact nlt _ hx)]
   exact ih hU.2 h
  ·rename_i hx
   have h' : x.name≠s:=by simpa using h
   cases hg : getE (x :: r) s with
   | none=>rfl
   | some e=>
    exfalso
    obtain⟨h1,h2⟩:=getE_mem hg
    rcases List.mem_cons.1 h1 with rfl | h1
    ·exact h' h2
    ·have:=hU.1 e h1; rw [h2] at this; exact hx this
theorem putE_there {L : List Ent} {s : Nm} (h:(findE L s).2=true) (e:Ent) (he:e.name=s) : putE L e=L.set (findE L s).1 e:=by
 induction L with
 | nil=>cases h
 | cons x r ih=>
  simp only [findE] at h ⊢
  split at h
  ·rename_i hx
   rw [if_pos hx]
   simp only [putE,he]
   rw [if_neg (fun k=>nlt _ (ntr k hx)),if_neg (fun k=>by rw [k] at hx; exact nlt _ hx),ih h]
   rfl
  ·rename_i hx
   rw [if_neg hx]
   have h' : x.name=s:=by simpa using h
   simp only [putE,he]
   rw [if_neg (fun k=>by rw [h'] at k; exact nlt _ k),if_pos h']
   rfl
theorem putE_new {L : List Ent} {s : Nm} (h:(findE L s).2=false) (e:Ent) (he:e.name=s) : putE L e=L.take (findE L s).1 ++ e :: L.drop (findE L s).1:=by
 induction L with
 | nil=>rfl
 | cons x r ih=>
  simp only [findE] at h ⊢
  split at h
  ·rename_i hx
   rw [if_pos hx]
   simp only [putE,he]
   rw [if_neg (fun k=>nlt _ (ntr k hx)),if_neg (fun k=>by rw [k] at hx; exact nlt _ hx),ih h]
   rfl
  ·rename_i hx
   rw [if_neg hx]
   have h' : x.name≠s:=by simpa using h
   simp only [putE,he]
   rw [if_pos (ntri hx (Ne.symm h'))]
   rfl
theorem less_lt : ∀ l m : List UInt8,Op.bytesLess l m=decide (l<m)
 | [],[]=>by simp [Op.bytesLess]
 | [],_ :: _=>by simp [Op.bytesLess]
 | _ :: _,[]=>by simp [Op.bytesLess]
 | a :: r,c :: s=>by
  have ih:=less_lt r s
  simp only [Op.bytesLess,ih,List.cons_lt_cons_iff]
  by_cases h1 : a<c
  ·simp [h1]
  ·by_cases h2 : a=c
   ·subst h2; simp
   ·simp [h1,h2]
theorem geq_str (l m : Nm) : (!Op.bytesLess (str l).toList (str m).toList)=decide (¬ l<m):=by
 rw [less_lt,ByteArray.toList_eq,ByteArray.toList_eq,str_list,str_list]; by_cases h : l<m <;> simp [h]
theorem eql_str (l m : Nm) : ((str l).toList == (str m).toList)=decide (l=m):=by
 rw [ByteArray.toList_eq,ByteArray.toList_eq,str_list,str_list]; by_cases h : l=m <;> simp [h]
section
variable {p : Pd} {b B : Nat} {v : Value} {W : World}
set_option maxRecDepth 100000 in
set_option maxHeartbeats 1000000 in
theorem find_c (h:Rk p b v B W) (s:Nm) : Calls Tryz.prog 155 #[.pointer (some ⟨b,0,none⟩),.string (str s)] W fun e W'=>e=.returned (.tuple #[.int .i64 ((findE p.L s).1 : Nat),.bool (findE p.L s).2])∧Below W.heap.size W W':=by
 obtain⟨⟨c0,_⟩,_⟩:=h.reads
 obtain⟨va,vc,rfl⟩:=own3_any h.row
 have H:=Lib.hid h
 clear h
 go_enter Tryz.func155,Tryz.ntmps155
 go_wp2_with fail
 go_loop [6] (fun i=>∃ k : Nat,k≤p.L.length∧i=.int .i64 k∧findE p.L s=((findE (p.L.drop k) s).1+k,(findE (p.L.drop k) s).2)) (fun i=>p.L.length-(intOf i).toNat)
 case atStart=>exact⟨0,by omega,rfl,rfl⟩
 case round=>
  obtain⟨k,hk,rfl,hf⟩:=hrel
  have hn : p.L.length≤1000000:=H.out.few
  by_cases hlt : k<p.L.length
  ·obtain⟨e,he⟩ : ∃ e,p.L[k]?=some e:=⟨_,List.getElem?_eq_getElem hlt⟩
   obtain⟨g,c,hv,hgc⟩:=own3_ptr H.out.row (by omega)
   cases hv
   have d1:=own3_cell H.out.row (cellsE_get he).1
   have hlti : (k:Int)<(p.L.length : Int):=by omega
   have hci : (p.L.length : Int)≤(vc:Int):=by omega
   have hk0 : (0:Int)≤(k:Int):=by omega
   have hw : IntKind.i64.wrap ((k:Int)+1)=(k:Int)+1:=IntWalk.i64_in _ (by omega)
   have hd : p.L.drop k=e :: p.L.drop (k+1):=by
    rw [List.drop_eq_getElem_cons hlt]
    rw [List.getElem?_eq_getElem hlt] at he
    injection he with he
    rw [he]
   have HF:=Lib.hid (And.intro hf hd)
   clear hf hd he
   by_cases hns : e.name<s
   ·have HS:=Lib.hid hns
    have hq:=geq_str e.name s
    rw [show decide (¬ e.name<s)=false by simp [hns]] at hq
    clear hns
    generalize str e.name=en at *
    go_wp2_with fail
    go_round
    case rel=>exact⟨k+1,by omega,by go_num,by
      have h1:=HF.out.1
      rw [HF.out.2] at h1
      simp only [findE] at h1
      rw [if_pos HS.out] at h1
      rw [h1]
      simp only [Prod.mk.injEq,and_true]
      omega⟩
    case measure=>simp [intOf]; omega
   ·have hq:=geq_str e.name s
    rw [show decide (¬ e.name<s)=true by simp [hns]] at hq
    have HS:=Lib.hid hns
    clear hns
    go_wp2_with fail
    go_quiet (fail)
    go_wp2_with fail
    go_ret2
    exact⟨by
      have h1:=HF.out.1
      rw [HF.out.2] at h1
      simp only [findE] at h1
      rw [if_neg HS.out] at h1
      rw [h1,eql_str]
      simp,below_drewN (.refl _ _) _⟩
  ·obtain rfl : k=p.L.length:=by omega
   rw [List.drop_length] at hf
   simp only [findE] at hf
   have HF:=Lib.hid hf
   clear hf
   go_wp2_with fail
   go_ret2
   exact⟨by rw [HF.out]; simp,.refl _ _⟩
end
end
section
open Go.RowKit
section
variable {p : Pd} {b B : Nat} {v : Value} {W : World}
theorem Rk.below {W' : World} (h:Rk p b v B W) (hb:Below W.heap.size W W') : Rk p b v B W':=
 h.kept (hb.block _ (lt_of h.cell)) (fun k hk=>hb.block _ (h.row.lt k hk).2)
set_option maxRecDepth 100000 in
set_option maxHeartbeats 1000000 in
theorem pread_c (h:Rk p b v B W) (hU:Up p.L) (s:Nm) : Calls Tryz.prog 106 #[.pointer (some ⟨b,0,none⟩),.string (str s)] W fun e W'=>e=.returned (readV (getE p.L s))∧Below W.heap.size W W':=by
 have F:=Lib.hid (find_c h s)
 cases hf : (findE p.L s).2 with
 | false=>
  rw [findE_gone hU hf]
  rw [hf] at F
  clear h hf
  generalize (findE p.L s).1=n at *
  generalize str s=y at *
  go_enter Tryz.func106,Tryz.ntmps106
  go_wp2_with fail
  refine F.out.mono ?_
  rintro e w1 ⟨rfl,h1⟩
  have B1:=Lib.hid h1; clear h1 F
  go_wp2_with fail
  go_ret2
  exact⟨rfl,B1.out⟩
 | true=>
  obtain⟨e,he,hg⟩:=findE_there hf
  rw [hg]
  rw [hf] at F
  clear hf hg
  generalize (findE p.L s).1=n at *
  generalize str s=y at *
  have hlt : n<p.L.length:=(List.getElem?_eq_some_iff.1 he).1
  have hn : p.L.length≤1000000:=h.few
  obtain⟨g,c,rfl,hgc⟩:=own3_ptr h.row (by omega)
  have H:=Lib.hid (And.intro h he)
  clear h he
  have hlti : (n:Int)<(p.L.length : Int):=by omega
  have hci : (p.L.length : Int)≤(c:Int):=by omega
  have hk0 : (0:Int)≤(n:Int):=by omega
  go_enter Tryz.func106,Tryz.ntmps106
  go_wp2_with fail
  refine F.out.mono ?_
  rintro _ w1 ⟨rfl,h1⟩
  have B1:=Lib.hid h1; clear F
  obtain⟨⟨c0,_⟩,_⟩:=(H.out.1.below h1).reads
  have d1:=own3_cell (H.out.1.below h1).row (cellsE_get H.out.2).2.1
  clear h1
  go_wp2_with fail
  go_ret2
  exact⟨rfl,B1.out⟩
set_option maxRecDepth 100000 in
theorem parm_c (h:Rk p b v B W) (after torn : Int) : Calls Tryz.prog 15 #[.pointer (some ⟨b,0,none⟩),.int .i64 after,.int .i64 torn] W fun e W'=>e=.returned (.tuple #[])∧Rk { p with after:=after,torn:=torn } b v B W'∧Chg (Rk.ft b v) (Rk.ft b v) W W':=by
 have h1:=h.set 2 (.int .i64 (max after (-1))) { p with after:=after } rfl (by rfl)
 have h2:=h1.1.set 3 (.int .i64 torn) { p with after:=after,torn:=torn } rfl (by rfl)
 have hc:=h1.2.trans h2.2
 obtain⟨_,f⟩:=h.reads
 have f2:=f 2
 obtain⟨_,g⟩:=h1.1.reads
 have g3:=g 3
 have H:=Lib.hid (And.intro h2.1 hc)
 clear h h1 h2 hc f g
 go_enter Tryz.func15,Tryz.ntmps15
 go_wp2_with fail
 go_end0
 exact⟨rfl,H.out⟩
set_option maxRecDepth 100000 in
theorem pnew_c (room:Nat) (hr:room≤1048576) (W:World) (hB:B≤W.heap.size) : Calls Tryz.prog 13 #[.int .i64 room] W fun e W'=>e=.returned (.pointer (some ⟨W.heap.size,0,none⟩))∧Rk (Pd.new room) W.heap.size (.slice none 0 0) B W'∧Below W.heap.size W W'∧W.heap.size<W'.heap.size:=by
 have h1 : (0:Int)≤(room:Int):=by omega
 have h2 : (room:Int)≤1048576:=by omega
 go_enter Tryz.func13,Tryz.ntmps13
 go_wp2_with fail
 go_ret
 refine⟨rfl,⟨heap_alloc_new _ _,⟨by rfl,Or.inl ⟨rfl,rfl⟩⟩,hB,by simp [Pd.new]⟩,(Below.refl _ _).alloc (Nat.le_refl _) _,by simp⟩
end
end
section
open Go.RowKit
theorem infoFileP : (Tryz.prog.info? 258).map (fun i=>(i.zero,i.size,i.bytes))=some (some (.agg #[.string ⟨#[]⟩,.string ⟨#[]⟩,.int .i64 0]),3,40):=by kernel_rfl
theorem addr_addP (g o j : Nat) : (⟨g,o,none⟩ : Addr).add j=⟨g,o+j,none⟩:=by unfold Addr.add; split <;> simp_all
theorem cellsE_one (L:List Ent) : ∀ u∈cellsE L,u.oneCell'=true:=by
 induction L with
 | nil=>simp [cellsE]
 | cons e r ih=>
  intro u hu
  simp only [cellsE,List.mem_cons] at hu
  rcases hu with rfl | rfl | rfl | hu
  ·rfl
  ·rfl
  ·rfl
  ·exact ih u hu
def LiesE (M:List Ent) (a:Option Addr) (c:Nat) (W:World) : Prop:=(a=none∧c=0∧M=[])∨∃ g o,a=some ⟨g,o,none⟩∧∀ j u,(cellsE M)[j]?=some u→W.cell? ⟨g,o+j,none⟩=some u
theorem wpList_append_files {ops : Array Oper} {rest : List Oper} {o : Oper} {a : Act} {Q : Exit→Act→World→Prop} {W : World} (hgd:o.guard=none) (s x : Operand)
  (ho:o.op=.call { callee:=.builtin .append,args:=#[s,x],argTypes:=#[106,106] })
  (B:Nat) (v:Value) (L M : List Ent) (hs:a.eval s=v) (h:W.ownsRow B 258 3 v L.length (cellsE L)) (ad:Option Addr) (c:Nat)
  (hx:a.eval x=.slice ad M.length c) (hM:LiesE M ad c W) (hB:B≤W.heap.size) (hn:L.length+M.length≤1000000)
  (hK:∀ v' W',W'.ownsRow B 258 3 v' (L ++ M).length (cellsE (L ++ M))→W.grownBy W' v.ownBlock→(v'.ownBlock=v.ownBlock∨v'.ownBlock=some W.heap.size)→wpList Tryz.prog ops Q rest (a.put o.dst v') W') : wpList Tryz.prog ops Q (o :: rest) a W:=by
 obtain⟨i0,hi,hz0,hz1,hz2⟩:=info_parts infoFileP
 rcases hM with ⟨rfl,rfl,rfl⟩ | ⟨g,q,rfl,hM⟩
 ·refine wpList_append_own_none hgd s x _ ho B _ i0 3 Tryz.underlying106 hi v _ _ hs h hx (hK v W ?_ ⟨rfl,rfl,rfl,Nat.le_refl _,fun _ _ _=>rfl⟩ (Or.inl rfl))
  rw [List.append_nil]; exact h
 ·refine wpList_append_own_at W hgd s x _ ho B _ i0 _ 3 40 Tryz.underlying106 hi hz0 hz1 hz2 rfl (by omega) v L.length _ hs h ⟨g,q,none⟩ M.length c (cellsE M) hx (by rw [cellsE_len]; omega) (fun j u hj=>by rw [addr_addP]; exact hM j u hj) (cellsE_one M) (by unfold maxLen; omega) (by omega) hB fun v' W' h1 h2 _ h4=>hK v' W' ?_ h2 h4
  rw [cellsE_app,List.length_append]; exact h1
section
variable {p : Pd} {b B : Nat} {v : Value} {W : World}
theorem cellsE_take (L:List Ent) (k j : Nat) (u:Value) (h:(cellsE (L.take k))[j]?=some u) : (cellsE L)[j]?=some u:=by
 have e : cellsE L=cellsE (L.take k) ++ cellsE (L.drop k):=by rw [← cellsE_app,List.take_append_drop]
 rw [e,List.getElem?_append_left (List.getElem?_eq_some_iff.1 h).1]; exact h
theorem cellsE_drop (L:List Ent) (k j : Nat) (u:Value) (hk:k≤L.length) (h:(cellsE (L.drop k))[j]?=some u) : (cellsE L)[k*3+j]?=some u:=by
 have e : cellsE L=cellsE (L.take k) ++ cellsE (L.drop k):=by rw [← cellsE_app,List.take_append_drop]
 have l : (cellsE (L.take k)).length=k*3:=by rw [cellsE_len,List.length_take]; omega
 rw [e,List.getElem?_append_right (by omega),l,show k*3+j-k*3=j by omega]; exact h
theorem Rk.newL (h:Rk p b v B W) {L : List Ent} {v' : Value} (ho:W.ownsRow B 258 3 v' L.length (cellsE L)) (hn:L.length≤1000000) : Rk { p with L:=L } b v' B (W.setCell ⟨b,0,none⟩ v'):=by
 refine⟨heap_setCell_same _ _ _ _ _ _ h.cell,own3_keep ho fun k hk=>heap_setCell_other _ _ _ _ ?_,h.ge,hn⟩
 intro e
 obtain⟨cs,hg⟩:=own3_block ho hk
 rw [show k=b by simpa using e,h.cell] at hg
 injection hg with hg
 injection hg with _ hg
 exact absurd hg (by decide)
def Gw (W W' : World) (v:Value) : Prop:=Below W.heap.size W W'∧∀ k,v.ownBlock=some k→W.heap.size≤k
theorem Gw.nil (W:World) : Gw W W (.slice none 0 0):=⟨.refl _ _,fun k e=>by cases e⟩
theorem Gw.step {W1 W2 : World} {v1 v2 : Value} (h:Gw W W1 v1) (hg:W1.grownBy W2 v1.ownBlock) (hb:v2.ownBlock=v1.ownBlock∨v2.ownBlock=some W1.heap.size) : Gw W W2 v2:=
 ⟨h.1.grown hg h.1.size h.2,fun k e=>by
   rcases hb with hb | hb
   · exact h.2 k (hb ▸ e)
   · rw [hb] at e; injection e with e; have:=h.1.size; omega⟩
theorem Gw.alloc {W1 : World} {v1 : Value} (h:Gw W W1 v1) (o:Obj) : Gw W (W1.alloc o) v1:=⟨h.1.alloc h.1.size o,h.2⟩
theorem Rk.newG {W' : World} {L : List Ent} {v' : Value} (h:Rk p b v B W) (hg:Gw W W' v') (ho:W'.ownsRow B 258 3 v' L.length (cellsE L)) (hn:L.length≤1000000) :
  Rk { p with L:=L } b v' B (W'.setCell ⟨b,0,none⟩ v')∧Chg (Rk.ft b v) (Rk.ft b v') W (W'.setCell ⟨b,0,none⟩ v'):=by
 refine⟨(h.below hg.1).newL ho hn,⟨hg.1.os,hg.1.tape,hg.1.output,by simpa [World.setCell] using hg.1.size,fun k hk hne=>?_,fun k hk=>?_⟩⟩
 ·rw [heap_setCell_other _ _ _ _ (by simpa using fun e=>hne (Or.inl e))]
  exact hg.1.block k hk
 ·rcases hk with rfl | hk
  ·exact Or.inl (Or.inl rfl)
  ·exact Or.inr (hg.2 k hk)
end
end
section
open Go.RowKit
section
variable {p : Pd} {b B : Nat} {v : Value} {W : World}
def fileCells (e:Ent) : Array Value:=#[.string (str e.name),.string (str e.bs),.int .i64 (e.syn : Nat)]
theorem file_cells {W : World} {q : Nat} {e : Ent} {t : TypeId} (h:W.heap[q]?=some (.cells (fileCells e) t (0,0))) : W.cell? ⟨q,0,none⟩=some (.string (str e.name))∧W.cell? ⟨q,1,none⟩=some (.string (str e.bs))∧W.cell? ⟨q,2,none⟩=some (.int .i64 (e.syn : Nat)):=⟨cell_of h 0,cell_of h 1,cell_of h 2⟩
theorem lies_new (W:World) (e:Ent) : LiesE [e] (some ⟨W.heap.size,0,none⟩) 1 (W.alloc (.cells (fileCells e) 258)):=by
 refine Or.inr ⟨_,_,rfl,fun j u hj=>?_⟩
 have h:=heap_alloc_new W (.cells (fileCells e) 258)
 rcases j with _ | _ | _ | j
 ·simp [cellsE] at hj; subst hj; exact cell_of h 0
 ·simp [cellsE] at hj; subst hj; exact cell_of h 1
 ·simp [cellsE] at hj; subst hj; exact cell_of h 2
 ·simp [cellsE] at hj
set_option maxRecDepth 100000 in
set_option maxHeartbeats 2000000 in
theorem pput_new (h:Rk p b v B W) (e:Ent) (hB:B≤W.heap.size) (hlen:p.L.length<1000000) (hf:(findE p.L e.name).2=false) : Calls Tryz.prog 237 #[.pointer (some ⟨b,0,none⟩),.agg (fileCells e)] W fun r W'=>r=.returned (.tuple #[])∧∃ v',Rk { p with L:=putE p.L e } b v' B W'∧Chg (Rk.ft b v) (Rk.ft b v') W W':=by
 rw [putE_new hf e rfl,List.append_cons]
 have F:=Lib.hid (find_c (h.below ((Below.refl _ _).alloc (Nat.le_refl _) (.cells (fileCells e) 258))) e.name)
 rw [hf] at F
 have hle:=findE_le p.L e.name
 clear hf
 generalize (findE p.L e.name).1=n at *
 have H:=Lib.hid h
 clear h
 go_enter Tryz.func237,Tryz.ntmps237
 unfold fileCells at *
 go_wp2_with fail
 refine F.out.mono ?_
 rintro _ W2 ⟨rfl,h2⟩
 have hb:=(((Below.refl W.heap.size W).alloc (Nat.le_refl _) (.cells (fileCells e) 258))).trans (h2.mono (by simp))
 have hx : W2.heap[W.heap.size]?=some (.cells (fileCells e) 258 (0,0)):=(h2.block _ (by simp)).trans (heap_alloc_new _ _)
 have hq : W.heap.size<W2.heap.size:=by have:=h2.size; simp at this; omega
 have hk:=H.out.below hb
 have HX:=Lib.hid (And.intro hx hq)
 obtain⟨x0,x1,x2⟩:=file_cells hx
 have hB2 : B≤W2.heap.size:=by omega
 have HC:=Lib.hid (Chg.of_below (F:=Rk.ft b v) hb)
 obtain⟨⟨c2,_⟩,f2⟩:=hk.reads
 have htl : (p.L.take n).length=n:=by rw [List.length_take]; omega
 have hdl : (p.L.drop n).length=p.L.length-n:=List.length_drop
 have hrow:=hk.row.2
 have H2:=Lib.hid hk
 clear hb hx hq hk F h2 f2 H
 generalize W.heap.size=q at *
 have hk0 : (0:Int)≤(n:Int):=by omega
 have hni : (n:Int)≤(p.L.length : Int):=by omega
 rcases hrow with ⟨rfl,h0⟩ | ⟨g,c,cur,rfl,_,_,hgc,_⟩
 ·have hn0 : n=0:=by omega
  subst hn0
  have hL : p.L=[]:=List.eq_nil_of_length_eq_zero h0
  have htn : p.L.take 0=[]:=rfl
  have hdn : p.L.drop 0=[]:=hL
  go_wp2_with (first | (at_builtin; refine wpList_append_files rfl _ _ rfl B (.slice none 0 0) [] (p.L.take 0) (by rfl) ⟨by rfl,Or.inl ⟨rfl,rfl⟩⟩ none 0 (by rw [htl]; rfl) (Or.inl ⟨rfl,rfl,htn⟩) hB2 (by rw [htl]; simp <;> omega) ?_; intro v3 W3 ho3 hg3 hb3; rw [List.nil_append] at ho3; have gw3:=(Gw.nil W2).step hg3 hb3; have hx3:=(gw3.1.block _ HX.out.2).trans HX.out.1; obtain⟨x0,x1,x2⟩:=file_cells hx3; obtain⟨a3,m3,n3,rfl⟩ : ∃ a m c,v3=.slice a m c:=(by obtain⟨a,c,h⟩:=own3_any ho3; exact⟨_,_,_,h⟩); have hB3 : B≤W3.heap.size:=Nat.le_trans hB2 hg3.size; have H3:=Lib.hid (And.intro ho3 gw3); clear ho3 hg3 hb3 gw3 hx3) | (at_builtin; refine wpList_append_files rfl _ _ rfl B (.slice a3 m3 n3) (p.L.take 0) [e] (by rfl) (H3.out.1.alloc _) _ _ (by rfl) (lies_new W3 e) (by simp; omega) (by rw [htl]; simp <;> omega) ?_; intro v4 W4 ho4 hg4 hb4; have gw4:=(H3.out.2.alloc _).step hg4 hb4; have hk4:=H2.out.below gw4.1; obtain⟨⟨c4,_⟩,f4⟩:=hk4.reads; have f40:=f4 0; obtain⟨a4,m4,n4,rfl⟩ : ∃ a m c,v4=.slice a m c:=(by obtain⟨a,c,h⟩:=own3_any ho4; exact⟨_,_,_,h⟩); have hB4 : B≤W4.heap.size:=Nat.le_trans hB2 gw4.1.size; have H4:=Lib.hid (And.intro ho4 (And.intro gw4 hk4)); clear ho4 hg4 hb4 gw4 hk4 f4) | (at_builtin; refine wpList_append_files rfl _ _ rfl B (.slice a4 m4 n4) (p.L.take 0 ++ [e]) (p.L.drop 0) (by rfl) H4.out.1 none 0 (by rw [hdn]; rfl) (Or.inl ⟨rfl,rfl,hdn⟩) hB4 (by rw [List.length_append,htl,hdl]; simp <;> omega) ?_; intro v5 W5 ho5 hg5 hb5; have gw5:=H4.out.2.1.step hg5 hb5; obtain⟨_,f5⟩:=(H2.out.below gw5.1).reads; have f50:=f5 0; obtain⟨a5,m5,n5,rfl⟩ : ∃ a m c,v5=.slice a m c:=(by obtain⟨a,c,h⟩:=own3_any ho5; exact⟨_,_,_,h⟩); have H5:=Lib.hid (H2.out.newG gw5 ho5 (by rw [List.length_append,List.length_append,htl,hdl]; simp <;> omega)); clear ho5 hg5 hb5 gw5 f5))
  go_end0
  exact⟨rfl,_,H5.out.1,HC.out.trans H5.out.2⟩
 ·have hci : (p.L.length : Int)≤(c:Int):=by omega
  by_cases hcn : c=n
  ·have hd0 : p.L.drop n=[]:=List.drop_eq_nil_of_le (by omega)
   subst hcn
   go_wp2_with (first | (at_builtin; refine wpList_append_files rfl _ _ rfl B (.slice none 0 0) [] (p.L.take c) (by rfl) ⟨by rfl,Or.inl ⟨rfl,rfl⟩⟩ (some ⟨g,0,none⟩) c (by rw [htl]; rfl) (Or.inr ⟨g,0,rfl,fun j u hj=>by rw [Nat.zero_add]; exact own3_cell H2.out.row (cellsE_take _ _ _ _ hj)⟩) hB2 (by rw [htl]; simp <;> omega) ?_; intro v3 W3 ho3 hg3 hb3; rw [List.nil_append] at ho3; have gw3:=(Gw.nil W2).step hg3 hb3; have hx3:=(gw3.1.block _ HX.out.2).trans HX.out.1; obtain⟨x0,x1,x2⟩:=file_cells hx3; obtain⟨a3,m3,n3,rfl⟩ : ∃ a m c,v3=.slice a m c:=(by obtain⟨a,c,h⟩:=own3_any ho3; exact⟨_,_,_,h⟩); have hB3 : B≤W3.heap.size:=Nat.le_trans hB2 hg3.size; have H3:=Lib.hid (And.intro ho3 gw3); clear ho3 hg3 hb3 gw3 hx3) | (at_builtin; refine wpList_append_files rfl _ _ rfl B (.slice a3 m3 n3) (p.L.take c) [e] (by rfl) (H3.out.1.alloc _) _ _ (by rfl) (lies_new W3 e) (by simp; omega) (by rw [htl]; simp <;> omega) ?_; intro v4 W4 ho4 hg4 hb4; have gw4:=(H3.out.2.alloc _).step hg4 hb4; have hk4:=H2.out.below gw4.1; obtain⟨⟨c4,_⟩,f4⟩:=hk4.reads; have f40:=f4 0; obtain⟨a4,m4,n4,rfl⟩ : ∃ a m c,v4=.slice a m c:=(by obtain⟨a,c,h⟩:=own3_any ho4; exact⟨_,_,_,h⟩); have hB4 : B≤W4.heap.size:=Nat.le_trans hB2 gw4.1.size; have H4:=Lib.hid (And.intro ho4 (And.intro gw4 hk4)); clear ho4 hg4 hb4 gw4 hk4 f4) | (at_builtin; refine wpList_append_files rfl _ _ rfl B (.slice a4 m4 n4) (p.L.take c ++ [e]) (p.L.drop c) (by rfl) H4.out.1 (some ⟨g,0,none⟩) 0 (by rw [hd0]; rfl) (Or.inr ⟨g,0,rfl,fun j u hj=>by rw [hd0] at hj; simp [cellsE] at hj⟩) hB4 (by rw [List.length_append,htl,hdl]; simp <;> omega) ?_; intro v5 W5 ho5 hg5 hb5; have gw5:=H4.out.2.1.step hg5 hb5; obtain⟨_,f5⟩:=(H2.out.below gw5.1).reads; have f50:=f5 0; obtain⟨a5,m5,n5,rfl⟩ : ∃ a m c,v5=.slice a m c:=(by obtain⟨a,c,h⟩:=own3_any ho5; exact⟨_,_,_,h⟩); have H5:=Lib.hid (H2.out.newG gw5 ho5 (by rw [List.length_append,List.length_append,htl,hdl]; simp <;> omega)); clear ho5 hg5 hb5 gw5 f5))
   go_end0
   exact⟨rfl,_,H5.out.1,HC.out.trans H5.out.2⟩
  ·have hcn' : ¬ (c:Int)=(n:Int):=by omega
   go_wp2_with (first | (at_builtin; refine wpList_append_files rfl _ _ rfl B (.slice none 0 0) [] (p.L.take n) (by rfl) ⟨by rfl,Or.inl ⟨rfl,rfl⟩⟩ (some ⟨g,0,none⟩) c (by rw [htl]; rfl) (Or.inr ⟨g,0,rfl,fun j u hj=>by rw [Nat.zero_add]; exact own3_cell H2.out.row (cellsE_take _ _ _ _ hj)⟩) hB2 (by rw [htl]; simp <;> omega) ?_; intro v3 W3 ho3 hg3 hb3; rw [List.nil_append] at ho3; have gw3:=(Gw.nil W2).step hg3 hb3; have hx3:=(gw3.1.block _ HX.out.2).trans HX.out.1; obtain⟨x0,x1,x2⟩:=file_cells hx3; obtain⟨a3,m3,n3,rfl⟩ : ∃ a m c,v3=.slice a m c:=(by obtain⟨a,c,h⟩:=own3_any ho3; exact⟨_,_,_,h⟩); have hB3 : B≤W3.heap.size:=Nat.le_trans hB2 hg3.size; have H3:=Lib.hid (And.intro ho3 gw3); clear ho3 hg3 hb3 gw3 hx3) | (at_builtin; refine wpList_append_files rfl _ _ rfl B (.slice a3 m3 n3) (p.L.take n) [e] (by rfl) (H3.out.1.alloc _) _ _ (by rfl) (lies_new W3 e) (by simp; omega) (by rw [htl]; simp <;> omega) ?_; intro v4 W4 ho4 hg4 hb4; have gw4:=(H3.out.2.alloc _).step hg4 hb4; have hk4:=H2.out.below gw4.1; obtain⟨⟨c4,_⟩,f4⟩:=hk4.reads; have f40:=f4 0; obtain⟨a4,m4,n4,rfl⟩ : ∃ a m c,v4=.slice a m c:=(by obtain⟨a,c,h⟩:=own3_any ho4; exact⟨_,_,_,h⟩); have hB4 : B≤W4.heap.size:=Nat.le_trans hB2 gw4.1.size; have H4:=Lib.hid (And.intro ho4 (And.intro gw4 hk4)); clear ho4 hg4 hb4 gw4 hk4 f4) | (at_builtin; refine wpList_append_files rfl _ _ rfl B (.slice a4 m4 n4) (p.L.take n ++ [e]) (p.L.drop n) (by rfl) H4.out.1 (some ⟨g,n*3,none⟩) (c-n) (by rw [hdl]; rfl) (Or.inr ⟨g,n*3,rfl,fun j u hj=>own3_cell H4.out.2.2.row (cellsE_drop _ _ _ _ (by omega) hj)⟩) hB4 (by rw [List.length_append,htl,hdl]; simp <;> omega) ?_; intro v5 W5 ho5 hg5 hb5; have gw5:=H4.out.2.1.step hg5 hb5; obtain⟨_,f5⟩:=(H2.out.below gw5.1).reads; have f50:=f5 0; obtain⟨a5,m5,n5,rfl⟩ : ∃ a m c,v5=.slice a m c:=(by obtain⟨a,c,h⟩:=own3_any ho5; exact⟨_,_,_,h⟩); have H5:=Lib.hid (H2.out.newG gw5 ho5 (by rw [List.length_append,List.length_append,htl,hdl]; simp <;> omega)); clear ho5 hg5 hb5 gw5 f5))
   go_end0
   exact⟨rfl,_,H5.out.1,HC.out.trans H5.out.2⟩
end
end
section
open Go.RowKit
section
variable {p : Pd} {b B : Nat} {v : Value} {W : World}
theorem cellsE_set (L:List Ent) (n:Nat) (e:Ent) : cellsE (L.set n e)=(((cellsE L).set (n*3) (.string (str e.name))).set (n*3+1) (.string (str e.bs))).set (n*3+2) (.int .i64 (e.syn : Nat)):=by
 induction L generalizing n with
 | nil=>rfl
 | cons x r ih=>
  cases n with
  | zero=>rfl
  | succ n=>
   rw [show (n+1)*3=n*3+1+1+1 by omega,show n*3+1+1+1+1=n*3+1+1+1+1 from rfl,show n*3+1+1+1+2=n*3+2+1+1+1 by omega]
   simp only [List.set_cons_succ,cellsE,ih]
theorem Rk.setE {g c : Nat} (h:Rk p b (.slice (some ⟨g,0,none⟩) p.L.length c) B W) (n:Nat) (e:Ent) :
  Rk { p with L:=p.L.set n e } b (.slice (some ⟨g,0,none⟩) p.L.length c) B (((W.setCell ⟨g,n*3,none⟩ (.string (str e.name))).setCell ⟨g,n*3+1,none⟩ (.string (str e.bs))).setCell ⟨g,n*3+2,none⟩ (.int .i64 (e.syn : Nat))) ∧
  Chg (Rk.ft b (.slice (some ⟨g,0,none⟩) p.L.length c)) (Rk.ft b (.slice (some ⟨g,0,none⟩) p.L.length c)) W (((W.setCell ⟨g,n*3,none⟩ (.string (str e.name))).setCell ⟨g,n*3+1,none⟩ (.string (str e.bs))).setCell ⟨g,n*3+2,none⟩ (.int .i64 (e.syn : Nat))):=by
 have hg : g≠b:=h.ne rfl
 have hk : ∀ k,k≠g→(((W.setCell ⟨g,n*3,none⟩ (.string (str e.name))).setCell ⟨g,n*3+1,none⟩ (.string (str e.bs))).setCell ⟨g,n*3+2,none⟩ (.int .i64 (e.syn : Nat))).heap[k]?=W.heap[k]?:=fun k hk=>by
  rw [heap_setCell_other _ _ _ _ (by simpa using hk),heap_setCell_other _ _ _ _ (by simpa using hk),heap_setCell_other _ _ _ _ (by simpa using hk)]
 have r1:=(h.row.stored (n*3) (.string (str e.name))).1
 have r2:=(r1.stored (n*3+1) (.string (str e.bs))).1
 have r3:=(r2.stored (n*3+2) (.int .i64 (e.syn : Nat))).1
 rw [← cellsE_set] at r3
 refine⟨⟨(hk b (Ne.symm hg)).trans h.cell,?_,h.ge,by simpa using h.few⟩,⟨rfl,rfl,rfl,by simp [World.setCell],fun k _ hn=>hk k (fun e=>hn (Or.inr (by rw [e]; rfl))),fun k hk=>Or.inl hk⟩⟩
 simp only [List.length_set]
 exact r3
set_option maxRecDepth 100000 in
set_option maxHeartbeats 2000000 in
theorem pput_there (h:Rk p b v B W) (e:Ent) (hf:(findE p.L e.name).2=true) : Calls Tryz.prog 237 #[.pointer (some ⟨b,0,none⟩),.agg (fileCells e)] W fun r W'=>r=.returned (.tuple #[])∧Rk { p with L:=putE p.L e } b v B W'∧Chg (Rk.ft b v) (Rk.ft b v) W W':=by
 rw [putE_there hf e rfl]
 have F:=Lib.hid (find_c (h.below ((Below.refl _ _).alloc (Nat.le_refl _) (.cells (fileCells e) 258))) e.name)
 rw [hf] at F
 obtain⟨e0,he0,_⟩:=findE_there hf
 clear hf
 generalize (findE p.L e.name).1=n at *
 have hlt : n<p.L.length:=(List.getElem?_eq_some_iff.1 he0).1
 have hn : p.L.length≤1000000:=h.few
 obtain⟨g,c,rfl,hgc⟩:=own3_ptr h.row (by omega)
 have H:=Lib.hid h
 clear h
 have hlti : (n:Int)<(p.L.length : Int):=by omega
 have hci : (p.L.length : Int)≤(c:Int):=by omega
 have hk0 : (0:Int)≤(n:Int):=by omega
 go_enter Tryz.func237,Tryz.ntmps237
 unfold fileCells at *
 go_wp2_with fail
 refine F.out.mono ?_
 rintro _ W2 ⟨rfl,h2⟩
 have hb:=(((Below.refl W.heap.size W).alloc (Nat.le_refl _) (.cells (fileCells e) 258))).trans (h2.mono (by simp))
 have hx : W2.heap[W.heap.size]?=some (.cells (fileCells e) 258 (0,0)):=(h2.block _ (by simp)).trans (heap_alloc_new _ _)
 have hk:=H.out.below hb
 obtain⟨x0,x1,x2⟩:=file_cells hx
 have HC:=Lib.hid (Chg.of_below (F:=Rk.ft b (.slice (some ⟨g,0,none⟩) p.L.length c)) hb)
 obtain⟨⟨c2,_⟩,f2⟩:=hk.reads
 obtain⟨cs,hcs⟩:=own3_block hk.row (k:=g) rfl
 have z0:=free_of hcs (n*3)
 have z1:=free_of hcs (n*3+1)
 have z2:=free_of hcs (n*3+2)
 clear hcs
 obtain⟨r0,r1,r2⟩:=cellsE_get he0
 have y0:=own3_cell hk.row r0
 have y1:=own3_cell hk.row r1
 have y2:=own3_cell hk.row r2
 clear r0 r1 r2
 have H2:=Lib.hid hk
 clear hb hx hk F h2 f2 H
 generalize W.heap.size=q at *
 go_wp2_with fail
 go_still_tail 7,(by kernel_rfl)
 go_wp2_with fail
 refine bodyPost_ret (results_none rfl _ _ _) rfl ?_
 obtain⟨h5,h6⟩:=H2.out.setE n e
 exact⟨rfl,h5.below ((Below.refl _ _).drew),HC.out.trans (h6.trans (Chg.of_below (Below.refl _ _).drew))⟩
end
end
section
open Go.RowKit
section
variable {p : Pd} {b B : Nat} {v : Value} {W : World}
theorem pput_c (h:Rk p b v B W) (e:Ent) (hB:B≤W.heap.size) (hlen:p.L.length<1000000) : Calls Tryz.prog 237 #[.pointer (some ⟨b,0,none⟩),.agg (fileCells e)] W fun r W'=>r=.returned (.tuple #[])∧∃ v',Rk { p with L:=putE p.L e } b v' B W'∧Chg (Rk.ft b v) (Rk.ft b v') W W':=by
 cases hf : (findE p.L e.name).2 with
 | false=>exact pput_new h e hB hlen hf
 | true=>exact (pput_there h e hf).mono fun r W' h=>⟨h.1,_,h.2⟩
def Stp (r:Int×Pd) (b B : Nat) (v:Value) (W:World) (e:Ending) (W' : World) : Prop:=e=.returned (.int .i64 r.1)∧∃ v',Rk r.2 b v' B W'∧Chg (Rk.ft b v) (Rk.ft b v') W W'
theorem Stp.mk {r : Int×Pd} {c : Int} {q : Pd} {v' : Value} {e : Ending} {W' : World} (hr:r=(c,q)) (he:e=.returned (.int .i64 c)) (h:Rk q b v' B W'∧Chg (Rk.ft b v) (Rk.ft b v') W W') : Stp r b B v W e W':=by subst hr; exact⟨he,v',h⟩
theorem pchange_dead {s : Nm} {f : Ent→List Ent} (hd:p.dead=true) : p.change s f=(19,p):=by unfold Pd.change; rw [if_pos hd]
theorem pchange_die {s : Nm} {f : Ent→List Ent} (hd:p.dead=false) (ha:p.after=0) : p.change s f=(19,p.die):=by unfold Pd.change; rw [if_neg (by simp [hd]),if_pos ha]
theorem pchange_none {s : Nm} {f : Ent→List Ent} (hd:p.dead=false) (ha:p.after≠0) (hg:getE p.L s=none) : p.change s f=(6,p.tick):=by unfold Pd.change; rw [if_neg (by simp [hd]),if_neg ha,hg]
theorem pchange_some {s : Nm} {f : Ent→List Ent} {e : Ent} (hd:p.dead=false) (ha:p.after≠0) (hg:getE p.L s=some e) : p.change s f=(0,{ p.tick with L:=f e }):=by unfold Pd.change; rw [if_neg (by simp [hd]),if_neg ha,hg]
end
end
section
open Go.RowKit
section
variable {p : Pd} {b B : Nat} {v : Value} {W : World}
theorem cellsE_syn (L:List Ent) (n:Nat) (e:Ent) (k:Nat) (he:L[n]?=some e) : cellsE (L.set n ⟨e.name,e.bs,k⟩)=(cellsE L).set (n*3+2) (.int .i64 (k:Nat)):=by
 induction L generalizing n with
 | nil=>rfl
 | cons x r ih=>
  cases n with
  | zero=>simp at he; subst he; rfl
  | succ n=>
   rw [show (n+1)*3+2=n*3+2+1+1+1 by omega]
   simp only [List.set_cons_succ,cellsE]
   rw [ih n (by simpa using he)]
theorem Rk.setS {g c : Nat} (h:Rk p b (.slice (some ⟨g,0,none⟩) p.L.length c) B W) (n:Nat) (e:Ent) (k:Nat) (he:p.L[n]?=some e) :
  Rk { p with L:=p.L.set n ⟨e.name,e.bs,k⟩ } b (.slice (some ⟨g,0,none⟩) p.L.length c) B (W.setCell ⟨g,n*3+2,none⟩ (.int .i64 (k:Nat))) ∧
  Chg (Rk.ft b (.slice (some ⟨g,0,none⟩) p.L.length c)) (Rk.ft b (.slice (some ⟨g,0,none⟩) p.L.length c)) W (W.setCell ⟨g,n*3+2,none⟩ (.int .i64 (k:Nat))):=by
 have hg : g≠b:=h.ne rfl
 have hk : ∀ k',k'≠g→(W.setCell ⟨g,n*3+2,none⟩ (.int .i64 (k:Nat))).heap[k']?=W.heap[k']?:=fun k' hk=>heap_setCell_other _ _ _ _ (by simpa using hk)
 have r3:=(h.row.stored (n*3+2) (.int .i64 (k:Nat))).1
 rw [← cellsE_syn _ _ _ _ he] at r3
 refine⟨⟨(hk b (Ne.symm hg)).trans h.cell,?_,h.ge,by simpa using h.few⟩,⟨rfl,rfl,rfl,by simp [World.setCell],fun k _ hn=>hk k (fun e=>hn (Or.inr (by rw [e]; rfl))),fun k hk=>Or.inl hk⟩⟩
 simp only [List.length_set]
 exact r3
set_option maxRecDepth 100000 in
set_option maxHeartbeats 2000000 in
theorem psync_c (h:Rk p b v B W) (hp:p.Ok) (s:Nm) : Calls Tryz.prog 198 #[.pointer (some ⟨b,0,none⟩),.string (str s)] W fun e W'=>Stp (p.sync s) b B v W e W':=by
 have F:=Lib.hid (crashes_c h hp)
 have HU:=Lib.hid hp.up
 clear h hp
 unfold Pd.sync
 go_enter Tryz.func198,Tryz.ntmps198
 go_wp2_with fail
 refine F.out.mono ?_
 rintro e W1 ⟨c,q,rfl,hq,hc,hr⟩
 rcases hr with ⟨hd,rfl,rfl⟩ | ⟨hd,ha,rfl,rfl⟩ | ⟨hd,ha,rfl,rfl⟩
 ·have HE:=Lib.hid (pchange_dead (s:=s) (f:=fun e=>putE q.L ⟨s,e.bs,e.bs.length⟩) hd)
  have H:=Lib.hid (And.intro hq hc)
  clear hq hc hd F
  go_wp2_with fail
  go_ret
  exact Stp.mk HE.out rfl H.out
 ·have HE:=Lib.hid (pchange_die (s:=s) (f:=fun e=>putE p.L ⟨s,e.bs,e.bs.length⟩) hd ha)
  have H:=Lib.hid (And.intro hq hc)
  clear hq hc hd ha F
  go_wp2_with fail
  go_ret
  exact Stp.mk HE.out rfl H.out
 ·have F2:=Lib.hid (find_c hq s)
  cases hf : (findE p.tick.L s).2 with
  | false=>
   have HE:=Lib.hid (pchange_none (s:=s) (f:=fun e=>putE p.L ⟨s,e.bs,e.bs.length⟩) hd ha (findE_gone HU.out hf))
   rw [hf] at F2
   have H:=Lib.hid (And.intro hq hc)
   clear hq hc hd ha hf F
   generalize (findE p.tick.L s).1=n at *
   go_wp2_with fail
   refine F2.out.mono ?_
   rintro e W2 ⟨rfl,h2⟩
   have H2:=Lib.hid (And.intro (H.out.1.below h2) (H.out.2.trans (Chg.of_below h2)))
   clear h2 F2 H
   go_wp2_with fail
   go_ret
   exact Stp.mk HE.out rfl H2.out
  | true=>
   obtain⟨e0,he0,hg⟩:=findE_there hf
   have hnm : e0.name=s:=(getE_mem hg).2
   have HE:=Lib.hid ((pchange_some (s:=s) (f:=fun e=>putE p.L ⟨s,e.bs,e.bs.length⟩) hd ha hg).trans (congrArg (fun l=>((0:Int),({ p.tick with L:=l } : Pd))) (putE_there (L:=p.tick.L) hf ⟨s,e0.bs,e0.bs.length⟩ rfl)))
   rw [← hnm] at HE
   rw [hf] at F2
   have hlt:=(List.getElem?_eq_some_iff.1 he0).1
   have hn : p.tick.L.length≤1000000:=hq.few
   obtain⟨g,c,rfl,hgc⟩:=own3_ptr hq.row (by omega)
   have H:=Lib.hid (And.intro hq hc)
   clear hq hc hd ha hf F hg
   have he:=he0
   rw [hnm] at HE
   generalize (findE p.tick.L s).1=n at *
   rw [← hnm] at HE
   have hlti : (n:Int)<(p.tick.L.length : Int):=by omega
   have hci : (p.tick.L.length : Int)≤(c:Int):=by omega
   have hk0 : (0:Int)≤(n:Int):=by omega
   have HQ:=Lib.hid he
   have hsz:=str_size e0.bs
   clear he he0
   go_wp2_with fail
   refine F2.out.mono ?_
   rintro e W2 ⟨rfl,h2⟩
   have hk:=H.out.1.below h2
   have HC:=Lib.hid (H.out.2.trans (Chg.of_below (F:=Rk.ft b (.slice (some ⟨g,0,none⟩) p.tick.L.length c)) h2))
   obtain⟨⟨c2,_⟩,f2⟩:=hk.reads
   obtain⟨cs,hcs⟩:=own3_block hk.row (k:=g) rfl
   have z2:=free_of hcs (n*3+2)
   obtain⟨r0,r1,r2⟩:=cellsE_get HQ.out
   have y1:=own3_cell hk.row r1
   have y2:=own3_cell hk.row r2
   have H2:=Lib.hid hk
   clear hcs r0 r1 r2 h2 F2 H hk f2
   go_wp2_with fail
   go_still_tail 16,(by kernel_rfl)
   go_wp2_with fail
   go_ret
   obtain⟨h5,h6⟩:=H2.out.setS n e0 e0.bs.length HQ.out
   subst hnm
   exact Stp.mk HE.out rfl ⟨h5.below ((Below.refl _ _).drew),HC.out.trans (h6.trans (Chg.of_below (Below.refl _ _).drew))⟩
end
end
section
open Go.RowKit
section
variable {p : Pd} {b B : Nat} {v : Value} {W : World}
theorem Chg.setNew {F F' : Nat→Prop} {W' : World} (h:Chg F F' W W') {q : Nat} (hq:W.heap.size≤q) (j:Nat) (u:Value) : Chg F F' W (W'.setCell ⟨q,j,none⟩ u):=
 ⟨h.1,h.2,h.3,by simpa [World.setCell] using h.4,fun k hk hn=>(heap_setCell_other _ _ _ _ (by show k≠q; omega)).trans (h.5 k hk hn),h.6⟩
end
end
end Go.Proofs.YtekoaheiapddiaaGreat.Dz
end
section
namespace Go.Proofs.YtekoaheiapddiaaGreat.Dz
open Go.RowKit
section
variable {p : Pd} {b B : Nat} {v : Value} {W : World}
theorem papp_dead {s xs : Nm} (hd:p.dead=true) : p.append s xs=(19,p):=by unfold Pd.append; rw [if_pos hd]
theorem papp_full1 {s xs : Nm} (hd:p.dead=false) (ha:p.after=0) (hu:¬ usedE p.L+xs.length≤p.room) : p.append s xs=(19,p.die):=by unfold Pd.append; rw [if_neg (by simp [hd]),if_pos ha,if_neg (fun h=>hu h.1)]
theorem papp_full0 {s xs : Nm} (hd:p.dead=false) (ha:p.after≠0) (hu:¬ usedE p.L+xs.length≤p.room) : p.append s xs=(5,p.tick):=by unfold Pd.append; rw [if_neg (by simp [hd]),if_neg ha,if_neg hu]
theorem papp_torn {s xs : Nm} (hd:p.dead=false) (ha:p.after=0) (hu:usedE p.L+xs.length≤p.room) (ht:tornN p.torn xs.length≠0) : p.append s xs=(19,p.die.app s (xs.take (tornN p.torn xs.length))):=by unfold Pd.append; rw [if_neg (by simp [hd]),if_pos ha,if_pos ⟨hu,ht⟩]
theorem papp_none {s xs : Nm} (hd:p.dead=false) (ha:p.after=0) (ht:tornN p.torn xs.length=0) : p.append s xs=(19,p.die):=by unfold Pd.append; rw [if_neg (by simp [hd]),if_pos ha,if_neg (fun h=>h.2 ht)]
theorem papp_all {s xs : Nm} (hd:p.dead=false) (ha:p.after≠0) (hu:usedE p.L+xs.length≤p.room) : p.append s xs=(0,p.tick.app s xs):=by unfold Pd.append; rw [if_neg (by simp [hd]),if_neg ha,if_pos hu]
theorem pcalm {P : Program} {f : FuncId} {args : Array Value} {W : World} {n : Nat} {v : Value} (h:Calls P f args (W.drewN n) fun e w'=>e=.returned v∧w'=W.drewN n) :
  Calls P f args (W.drewN n) fun e w'=>e=.returned v∧∃ m,w'=W.drewN m:=h.mono fun _ _ k=>⟨k.1,n,k.2⟩
theorem Pd.Ok.tick' (h:p.Ok) : p.tick.Ok:=⟨h.up,h.used,h.room,by
  have:=h.after
  show _≤(if 0<p.after then p.after-1 else p.after)∧(if 0<p.after then p.after-1 else p.after)≤_
  split <;> omega,h.syn⟩
set_option maxRecDepth 100000 in
set_option maxHeartbeats 2000000 in
theorem pappend_full (h:Rk p b v B W) (hp:p.Ok) (s xs : Nm) (hx:xs.length≤4000000000000000000) (hu:p.dead=true∨¬ usedE p.L+xs.length≤p.room) : Calls Tryz.prog 197 #[.pointer (some ⟨b,0,none⟩),.string (str s),.string (str xs)] W fun e W'=>Stp (p.append s xs) b B v W e W':=by
 have F:=Lib.hid (crashes_c h hp)
 have HP:=Lib.hid hp
 have hur : usedE p.L≤1048576:=Nat.le_trans hp.used hp.room
 have hrr : p.room≤1048576:=hp.room
 have hsz:=str_size xs
 clear h hp
 go_enter Tryz.func197,Tryz.ntmps197
 go_wp2_with fail
 refine F.out.mono ?_
 rintro e W1 ⟨c,q,rfl,hq,hc,hr⟩
 rcases hr with ⟨hd,rfl,rfl⟩ | ⟨hd,ha,rfl,rfl⟩ | ⟨hd,ha,rfl,rfl⟩
 ·have HE:=Lib.hid (papp_dead (s:=s) (xs:=xs) hd)
  have H:=Lib.hid (And.intro hq hc)
  clear hq hc hd hu F
  go_wp2_with fail
  go_ret
  exact Stp.mk HE.out rfl H.out
 ·have HU:=Lib.hid (fun n=>pused_c (hq.below (below_drewN (.refl _ _) n)) HP.out.die)
  obtain⟨⟨_,c1,_⟩,_⟩:=hq.reads
  replace hu : ¬ usedE p.L+xs.length≤p.room:=hu.resolve_left (by simp [hd])
  have hw : IntKind.i64.wrap ((usedE p.die.L : Nat)+(xs.length : Nat) : Int)=(usedE p.die.L : Nat)+(xs.length : Nat):=IntWalk.i64_in _ (by show _≤((usedE p.L : Nat) : Int)+_∧((usedE p.L : Nat) : Int)+_≤_; omega)
  have HE:=Lib.hid (papp_full1 (s:=s) (xs:=xs) hd ha hu)
  have H:=Lib.hid (And.intro hq hc)
  have hui : (p.die.room : Int)<(usedE p.die.L : Int)+(xs.length : Int):=by show (p.room : Int)<(usedE p.L : Int)+_; omega
  clear hq hc hd ha F hu
  generalize usedE p.die.L=u at *
  generalize p.die.room=rm at *
  go_wp2_with fail
  go_quiet ((go_at_call 236; exact pcalm (HU.out _)))
  go_wp2_with fail
  go_ret
  exact Stp.mk HE.out rfl ⟨H.out.1.below (below_drewN (.refl _ _) _),H.out.2.trans (Chg.of_below (below_drewN (.refl _ _) _))⟩
 ·have HU:=Lib.hid (fun n=>pused_c (hq.below (below_drewN (.refl _ _) n)) HP.out.tick')
  obtain⟨⟨_,c1,_⟩,_⟩:=hq.reads
  replace hu : ¬ usedE p.L+xs.length≤p.room:=hu.resolve_left (by simp [hd])
  have hw : IntKind.i64.wrap ((usedE p.tick.L : Nat)+(xs.length : Nat) : Int)=(usedE p.tick.L : Nat)+(xs.length : Nat):=IntWalk.i64_in _ (by show _≤((usedE p.L : Nat) : Int)+_∧((usedE p.L : Nat) : Int)+_≤_; omega)
  have HE:=Lib.hid (papp_full0 (s:=s) (xs:=xs) hd ha hu)
  have H:=Lib.hid (And.intro hq hc)
  have hui : (p.tick.room : Int)<(usedE p.tick.L : Int)+(xs.length : Int):=by show (p.room : Int)<(usedE p.L : Int)+_; omega
  clear hq hc hd ha F hu
  generalize usedE p.tick.L=u at *
  generalize p.tick.room=rm at *
  go_wp2_with fail
  go_quiet ((go_at_call 236; exact pcalm (HU.out _)))
  go_wp2_with fail
  go_ret
  exact Stp.mk HE.out rfl ⟨H.out.1.below (below_drewN (.refl _ _) _),H.out.2.trans (Chg.of_below (below_drewN (.refl _ _) _))⟩
end
end Go.Proofs.YtekoaheiapddiaaGreat.Dz
end
section
namespace Go.Proofs.YtekoaheiapddiaaGreat.Dz
open Go.RowKit
section
variable {p : Pd} {b B : Nat} {v : Value} {W : World}
theorem nil_str (l:Nm) : ({ data:=#[] } : ByteArray) ++ str l=str l:=by
 apply ByteArray.ext; simp [str]
set_option maxRecDepth 100000 in
set_option maxHeartbeats 2000000 in
theorem pappend_all (h:Rk p b v B W) (hp:p.Ok) (s xs : Nm) (hx:xs.length≤1000000000) (hB:B≤W.heap.size) (hlen:p.L.length<1000000) (hu:usedE p.L+xs.length≤p.room) (hd:p.dead=false) (ha:p.after≠0) : Calls Tryz.prog 197 #[.pointer (some ⟨b,0,none⟩),.string (str s),.string (str xs)] W fun e W'=>Stp (p.append s xs) b B v W e W':=by
 have F:=Lib.hid (crashes_c h hp)
 have HP:=Lib.hid hp
 have hur : usedE p.L≤1048576:=Nat.le_trans hp.used hp.room
 have hrr : p.room≤1048576:=hp.room
 have hsz:=str_size xs
 clear h hp
 go_enter Tryz.func197,Tryz.ntmps197
 go_wp2_with fail
 refine F.out.mono ?_
 rintro e W1 ⟨c,q,rfl,hq,hc,hr⟩
 have hB1 : B≤W1.heap.size:=Nat.le_trans hB hc.size
 obtain⟨rfl,rfl⟩ : c=0∧q=p.tick:=by
  rcases hr with ⟨hd',_⟩ | ⟨_,ha',_⟩ | ⟨_,_,h1,h2⟩
  ·rw [hd] at hd'; cases hd'
  ·exact absurd ha' ha
  ·exact⟨h1,h2⟩
 have HU:=Lib.hid (fun n=>pused_c (hq.below (below_drewN (.refl _ _) n)) HP.out.tick')
 obtain⟨⟨_,c1,_⟩,_⟩:=hq.reads
 have hw : IntKind.i64.wrap ((usedE p.tick.L : Nat)+(xs.length : Nat) : Int)=(usedE p.tick.L : Nat)+(xs.length : Nat):=IntWalk.i64_in _ (by show _≤((usedE p.L : Nat) : Int)+_∧((usedE p.L : Nat) : Int)+_≤_; omega)
 have HE:=Lib.hid (papp_all (s:=s) (xs:=xs) hd ha hu)
 have hui : ¬ (p.tick.room : Int)<(usedE p.tick.L : Int)+(xs.length : Int):=by show ¬ (p.room : Int)<(usedE p.L : Int)+_; omega
 have H:=Lib.hid (fun n=>And.intro (hq.below (below_drewN (.refl W1.heap.size W1) n)) (hc.trans (Chg.of_below (below_drewN (.refl W1.heap.size W1) n))))
 clear hq hc hd ha F hu hr
 generalize usedE p.tick.L=u at *
 generalize p.tick.room=rm at *
 go_wp2_with fail
 go_quiet ((go_at_call 236; exact pcalm (HU.out _)))
 replace H:=Lib.hid (H.out nq)
 replace hB1 : B≤(W1.drewN nq).heap.size:=hB1
 generalize W1.drewN nq=W2 at *
 clear HU c1 hw
 have F2:=Lib.hid (find_c H.out.1 s)
 cases hf : (findE p.tick.L s).2 with
 | false=>
  have hg:=findE_gone HP.out.up hf
  rw [hf] at F2
  clear hf
  generalize (findE p.tick.L s).1=n at *
  go_wp2_with fail
  refine F2.out.mono ?_
  rintro e W3 ⟨rfl,h3⟩
  have H3:=Lib.hid (And.intro (H.out.1.below h3) (H.out.2.trans (Chg.of_below h3)))
  have hB3 : B≤W3.heap.size:=Nat.le_trans hB1 h3.size
  clear H F2 h3
  have HE2:=Lib.hid (HE.out.trans (show ((0:Int),p.tick.app s xs)=(0,{ p.tick with L:=putE p.tick.L ⟨s,xs,0⟩ }) by unfold Pd.app; rw [show getE p.tick.L s=none from hg]; rfl))
  go_wp2_with fail
  rw [nil_str xs]
  have hal : Below W3.heap.size W3 (W3.alloc (.cells #[.string (str s),.string (str xs),.int .i64 0] 258)):=(Below.refl _ _).alloc (Nat.le_refl _) _
  have F4:=Lib.hid (pput_c (H3.out.1.below hal) ⟨s,xs,0⟩ (by have:=hal.size; omega) hlen)
  refine F4.out.mono ?_
  rintro e W5 ⟨rfl,v5,h5,hc5⟩
  have H5:=Lib.hid (And.intro h5 ((H3.out.2.trans (Chg.of_below hal)).trans hc5))
  clear h5 hc5 F4 hal H3
  go_wp2_with fail
  go_ret
  exact Stp.mk HE2.out rfl H5.out
 | true=>
  obtain⟨e0,he0,hg⟩:=findE_there hf
  have hnm : e0.name=s:=(getE_mem hg).2
  rw [hf] at F2
  have hlt:=(List.getElem?_eq_some_iff.1 he0).1
  have hn : p.tick.L.length≤1000000:=H.out.1.few
  obtain⟨g,c,rfl,hgc⟩:=own3_ptr H.out.1.row (by omega)
  have HE2:=Lib.hid (HE.out.trans (show ((0:Int),p.tick.app s xs)=(0,{ p.tick with L:=putE p.tick.L ⟨s,e0.bs ++ xs,e0.syn⟩ }) by unfold Pd.app; rw [hg]; rfl))
  have hz1 : e0.bs.length≤1048576:=Nat.le_trans (usedE_le (L:=p.L) hg) hur
  clear hf hg
  generalize (findE p.tick.L s).1=n at *
  have hlti : (n:Int)<(p.tick.L.length : Int):=by omega
  have hci : (p.tick.L.length : Int)≤(c:Int):=by omega
  have hk0 : (0:Int)≤(n:Int):=by omega
  go_wp2_with fail
  refine F2.out.mono ?_
  rintro e W3 ⟨rfl,h3⟩
  have hk:=H.out.1.below h3
  have hB3 : B≤W3.heap.size:=Nat.le_trans hB1 h3.size
  have hal : Below W3.heap.size W3 (W3.alloc (.cells #[.string (str s),.string { data:=#[] },.int .i64 0] 258)):=(Below.refl _ _).alloc (Nat.le_refl _) _
  obtain⟨⟨c2,_⟩,_⟩:=(hk.below hal).reads
  obtain⟨r0,r1,r2⟩:=cellsE_get he0
  have y0:=own3_cell (hk.below hal).row r0
  have y1:=own3_cell (hk.below hal).row r1
  have y2:=own3_cell (hk.below hal).row r2
  have H3:=Lib.hid (And.intro hk (H.out.2.trans (Chg.of_below h3)))
  have HN:=Lib.hid hnm
  have hz0:=str_size e0.bs
  clear H F2 h3 hk hal r0 r1 r2 he0 hnm
  go_wp2_with fail
  rw [str_app,HN.out]
  have hal : Below W3.heap.size W3 (W3.alloc (.cells #[.string (str s),.string (str (e0.bs ++ xs)),.int .i64 (e0.syn : Nat)] 258)):=(Below.refl _ _).alloc (Nat.le_refl _) _
  have F4:=Lib.hid (pput_c (H3.out.1.below hal) ⟨s,e0.bs ++ xs,e0.syn⟩ (by have:=hal.size; omega) hlen)
  refine F4.out.mono ?_
  rintro e W5 ⟨rfl,v5,h5,hc5⟩
  have H5:=Lib.hid (And.intro h5 ((H3.out.2.trans (Chg.of_below hal)).trans hc5))
  clear h5 hc5 F4 hal H3
  go_wp2_with fail
  go_ret
  exact Stp.mk HE2.out rfl H5.out
end
end Go.Proofs.YtekoaheiapddiaaGreat.Dz
end
