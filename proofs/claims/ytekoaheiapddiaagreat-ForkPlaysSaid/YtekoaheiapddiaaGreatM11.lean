/- Merged: Lh, Lt, Li, Lj. -/
import Derived.Test.YtekoaheiapddiaaGreatM10
import Derived.Maps.AppendAt
import Derived.Test.YtekoaheiapddiaaGreatM01
import Derived.Lib.SliceRun
import Derived.StillTailTactics
section
namespace Go.Proofs.YtekoaheiapddiaaGreat
open Go.RowKit
section
variable {w : World} {B : Nat} {e : TypeId} {g cap n : Nat} {xs : List Value} {y : Value}
theorem own_form {v : Value} (h:w.ownsRow B e 1 v (n+1) xs) : ∃ g cap,v=.slice (some ⟨g,0,none⟩) (n+1) cap∧B≤g∧g<w.heap.size∧n+1≤cap:=by
 rcases h.2 with ⟨_,h0⟩ | ⟨g,cap,cur,rfl,hb,hg,hn,_⟩
 ·omega
 ·exact⟨g,cap,rfl,hb,lt_of hg,hn⟩
theorem own_cell {v : Value} (h:w.ownsRow B e 1 v n xs) (hv:v=.slice (some ⟨g,0,none⟩) n cap) (j:Nat) (u:Value) (hj:xs[j]?=some u) : w.cell? ⟨g,j,none⟩=some u:=by
 have h1:=h.cells (g:=g) (by rw [hv]; rfl) j u hj
 have e : (⟨g,0,none⟩ : Addr).add j=⟨g,j,none⟩:=by unfold Addr.add; split <;> simp_all
 rwa [e] at h1
theorem own_free {v : Value} (h:w.ownsRow B e 1 v n xs) (hv:v=.slice (some ⟨g,0,none⟩) n cap) (j:Nat) : w.frozen? ⟨g,j,none⟩=false:=by
 rcases h.2 with ⟨rfl,_⟩ | ⟨g',cap',cur,rfl,_,hg,_⟩
 ·cases hv
 ·cases hv; exact free_of hg j
theorem own_pop (h:w.ownsRow B e 1 (.slice (some ⟨g,0,none⟩) (n+1) cap) (n+1) (xs ++ [y])) : w.ownsRow B e 1 (.slice (some ⟨g,0,none⟩) n cap) n xs:=by
 have hl : xs.length=n:=by have:=h.1; simp at this; omega
 refine⟨by omega,Or.inr ?_⟩
 rcases h.2 with ⟨h0,_⟩ | ⟨g',cap',cur,hv,hb,hg,hn,hm,hs,ht⟩
 ·cases h0
 ·cases hv
  refine⟨g,cap,cur,rfl,hb,hg,by omega,hm,hs,?_⟩
  have:=congrArg (List.take n) ht
  rw [List.take_take,Nat.mul_one,show min n (n+1)=n by omega,List.take_left' hl] at this
  rwa [Nat.mul_one]
theorem own_setAt {v : Value} (h:w.ownsRow B e 1 v n xs) (hv:v=.slice (some ⟨g,0,none⟩) n cap) (j:Nat) (y:Value) : (w.setCell ⟨g,j,none⟩ y).ownsRow B e 1 v n (xs.set j y):=by
 refine⟨by simpa using h.1,Or.inr ?_⟩
 rcases h.2 with ⟨rfl,_⟩ | ⟨g',cap',cur,rfl,hb,hg,hn,hm,hs,ht⟩
 ·cases hv
 ·cases hv
  refine⟨g,cap,cur.setIfInBounds j y,rfl,hb,heap_setCell_same _ _ _ _ _ _ hg,hn,hm,by simpa using hs,?_⟩
  rw [Array.toList_setIfInBounds,← ht,List.take_set]
end
theorem own_top {w : World} {B : Nat} {e : TypeId} {g cap n : Nat} {xs : List Value} {y : Value} (h:w.ownsRow B e 1 (.slice (some ⟨g,0,none⟩) (n+1) cap) (n+1) (xs ++ [y])) : w.cell? ⟨g,n,none⟩=some y∧w.frozen? ⟨g,n,none⟩=false:=by
 have hl : xs.length=n:=by have:=h.1; simp at this; omega
 exact⟨own_cell h rfl n y (by rw [List.getElem?_append_right (by omega),hl]; simp),own_free h rfl n⟩
theorem own_keep {w w' : World} {B : Nat} {e : TypeId} {v : Value} {n : Nat} {xs : List Value} (h:w.ownsRow B e 1 v n xs) (hb:∀ k,v.ownBlock=some k→w'.heap[k]?=w.heap[k]?) : w'.ownsRow B e 1 v n xs:=by
 refine⟨h.1,?_⟩
 rcases h.2 with h0 | ⟨g,cap,cur,rfl,hbg,hg,rest⟩
 ·exact Or.inl h0
 ·exact Or.inr ⟨g,cap,cur,rfl,hbg,(hb g rfl).trans hg,rest⟩
theorem wpList_append_one {ops : Array Oper} {rest : List Oper} {o : Oper} {a : Act} {Q : Exit→Act→World→Prop} {W : World} (hgd:o.guard=none) (s x : Operand) (ty e : TypeId)
  (ho:o.op=.call { callee:=.builtin .append,args:=#[s,x],argTypes:=#[ty,ty] }) (hu:Tryz.prog.underlying ty=some (.slice e)) (z:Value) (bytes:Nat)
  (hinfo:(Tryz.prog.info? e).map (fun i=>(i.zero,i.size,i.bytes))=some (some z,1,bytes)) (hz1:z.cells.size=1) (hby:bytes≤48)
  (B:Nat) (v:Value) (n:Nat) (xs:List Value) (hs:a.eval s=v) (hown:W.ownsRow B e 1 v n xs) (q:Nat) (u:Value) (h1:u.oneCell'=true) (hx:a.eval x=.slice (some ⟨q,0,none⟩) 1 1) (hz:W.heap[q]?=some (.cells #[u] e (0,0)))
  (hB:B≤W.heap.size) (hn:n<1000000000)
  (hK:∀ v' W',W'.ownsRow B e 1 v' (n+1) (xs ++ [u])→W.grownBy W' v.ownBlock→(v'.ownBlock=v.ownBlock∨v'.ownBlock=some W.heap.size)→wpList Tryz.prog ops Q rest (a.put o.dst v') W') : wpList Tryz.prog ops Q (o :: rest) a W:=by
 obtain⟨i0,hi,hz0,hzz,hz2⟩:=info_parts hinfo
 refine wpList_append_own_at W hgd s x ty ho B e i0 z 1 bytes hu hi hz0 hzz hz2 hz1 (by omega) v n xs hs hown ⟨q,0,none⟩ 1 1 [u] hx rfl ?_ ?_ (by unfold maxLen; omega) ?_ hB fun v' W' h2 h3 _ h5=>hK v' W' h2 h3 h5
 ·intro j u' hj
  have e : (⟨q,0,none⟩ : Addr).add j=⟨q,j,none⟩:=by unfold Addr.add; split <;> simp_all
  rw [e,cell_of hz]
  simpa using hj
 ·intro u' hu'
  obtain rfl : u'=u:=by simpa using hu'
  exact h1
 ·exact Nat.le_trans (Nat.mul_le_mul_left (n+1) hby) (by omega)
theorem wp_append_one {o : Oper} {a : Act} {K : Act→World→Prop} {Q : Exit→Act→World→Prop} {W : World} (s x : Operand) (ty e : TypeId)
  (ho:o.op=.call { callee:=.builtin .append,args:=#[s,x],argTypes:=#[ty,ty] }) (hu:Tryz.prog.underlying ty=some (.slice e)) (z:Value) (bytes:Nat)
  (hinfo:(Tryz.prog.info? e).map (fun i=>(i.zero,i.size,i.bytes))=some (some z,1,bytes)) (hz1:z.cells.size=1) (hby:bytes≤48)
  (B:Nat) (v:Value) (n:Nat) (xs:List Value) (hs:a.eval s=v) (hown:W.ownsRow B e 1 v n xs) (q:Nat) (u:Value) (h1:u.oneCell'=true) (hx:a.eval x=.slice (some ⟨q,0,none⟩) 1 1) (hz:W.heap[q]?=some (.cells #[u] e (0,0)))
  (hB:B≤W.heap.size) (hn:n<1000000000)
  (hK:∀ v' W',W'.ownsRow B e 1 v' (n+1) (xs ++ [u])→W.grownBy W' v.ownBlock→(v'.ownBlock=v.ownBlock∨v'.ownBlock=some W.heap.size)→K (a.put o.dst v') W') : Oper.wp Tryz.prog o a W K Q:=by
 obtain⟨i0,hi,hz0,hzz,hz2⟩:=info_parts hinfo
 obtain⟨v',w',hr,h2,h3,h4,h5⟩:=run_append_own_at (P:=Tryz.prog) W B ty o.type e i0 z 1 bytes hu hi hz0 hzz hz2 hz1 (by omega) v n xs hown ⟨q,0,none⟩ 1 1 [u] rfl (by
   intro j u' hj
   have e : (⟨q,0,none⟩ : Addr).add j=⟨q,j,none⟩:=by unfold Addr.add; split <;> simp_all
   rw [e,cell_of hz]
   simpa using hj) (by
   intro u' hu'
   obtain rfl : u'=u:=by simpa using hu'
   exact h1) (by unfold maxLen; omega) (Nat.le_trans (Nat.mul_le_mul_left (n+1) hby) (by omega)) hB
 unfold Oper.wp execOp
 simp only [ho,resolve,invoke,builtin,Sem.run_bind,Sem.run_pure,Result.andThen_ok,List.map_toArray,List.map_cons,List.map_nil,hs,hx,hr]
 exact hK _ _ h2 h3 h5
inductive Ev where
 | bgn : Ev
 | txt (s:List UInt8) : Ev
 | fin : Ev
def Fo.evs : Fo→List Ev
 | .nil=>[]
 | .text s r=>.txt s :: r.evs
 | .list i r=>.bgn :: i.evs ++ .fin :: r.evs
def evP : List Fo→List Ev
 | []=>[]
 | f :: q=>f.evs ++ .fin :: evP q
structure Chg (F F' : Nat→Prop) (w w' : World) : Prop where
 os : w'.os=w.os
 tape : w'.tape=w.tape
 output : w'.output=w.output
 size : w.heap.size≤w'.heap.size
 block : ∀ k,k<w.heap.size→¬ F k→w'.heap[k]?=w.heap[k]?
 new : ∀ k,F' k→F k∨w.heap.size≤k
theorem Chg.refl (F:Nat→Prop) (w:World) : Chg F F w w:=⟨rfl,rfl,rfl,Nat.le_refl _,fun _ _ _=>rfl,fun _ h=>Or.inl h⟩
theorem Chg.trans {F F' F'' : Nat→Prop} {a b c : World} (h:Chg F F' a b) (k:Chg F' F'' b c) : Chg F F'' a c:=
 ⟨k.os.trans h.os,k.tape.trans h.tape,k.output.trans h.output,Nat.le_trans h.size k.size,
   fun i hi hn=>(k.block i (Nat.lt_of_lt_of_le hi h.size) (fun hf=>(h.new i hf).elim hn (by omega))).trans (h.block i hi hn),
   fun i hi=>(k.new i hi).elim (fun hf=>h.new i hf) (fun h2=>Or.inr (Nat.le_trans h.size h2))⟩
structure Sink (σ:Type) (nb nt ne : FuncId) (p:Value) where
 St : σ→World→Prop
 ft : World→Nat→Prop
 ok : σ→Ev→Prop
 step : σ→Ev→σ
 lt : ∀ s W k,St s W→ft W k→k<W.heap.size
 kept : ∀ s W W',St s W→(∀ k,ft W k→W'.heap[k]?=W.heap[k]?)→W.heap.size≤W'.heap.size→St s W'∧∀ k,ft W' k ↔ ft W k
 eb : ∀ args w,(callFunc nb args).run Tryz.prog w=.ok (.enter nb args) w
 et : ∀ args w,(callFunc nt args).run Tryz.prog w=.ok (.enter nt args) w
 ee : ∀ args w,(callFunc ne args).run Tryz.prog w=.ok (.enter ne args) w
 cb : ∀ s W,St s W→ok s .bgn→Calls Tryz.prog nb #[p] W fun e W'=>e=.returned (.tuple #[])∧St (step s .bgn) W'∧Chg (ft W) (ft W') W W'
 ct : ∀ s t W,St s W→ok s (.txt t)→Calls Tryz.prog nt #[p,.string (str t)] W fun e W'=>e=.returned (.tuple #[])∧St (step s (.txt t)) W'∧Chg (ft W) (ft W') W W'
 ce : ∀ s W,St s W→ok s .fin→Calls Tryz.prog ne #[p] W fun e W'=>e=.returned (.tuple #[])∧St (step s .fin) W'∧Chg (ft W) (ft W') W W'
def runE {σ : Type} (st:σ→Ev→σ) : σ→List Ev→σ
 | s,[]=>s
 | s,e :: r=>runE st (st s e) r
def goodE {σ : Type} (st:σ→Ev→σ) (ok:σ→Ev→Prop) : σ→List Ev→Prop
 | _,[]=>True
 | s,e :: r=>ok s e∧goodE st ok (st s e) r
theorem runE_app {σ : Type} (st:σ→Ev→σ) : ∀ (a b : List Ev) (s:σ),runE st s (a ++ b)=runE st (runE st s a) b
 | [],_,_=>rfl
 | _ :: r,b,s=>runE_app st r b (st s _)
theorem goodE_app {σ : Type} (st:σ→Ev→σ) (ok:σ→Ev→Prop) : ∀ (a b : List Ev) (s:σ),goodE st ok s (a ++ b) ↔ goodE st ok s a∧goodE st ok (runE st s a) b
 | [],_,_=>by simp [goodE,runE]
 | e :: r,b,s=>by
  show ok s e∧goodE st ok (st s e) (r ++ b) ↔ (ok s e∧goodE st ok (st s e) r)∧goodE st ok (runE st (st s e) r) b
  rw [goodE_app st ok r b (st s e),and_assoc]
def Pend (S:Nat→Prop) : List Fo→List Value→World→Prop
 | [],ys,_=>ys=[]
 | f :: q,ys,W=>∃ y r,ys=y :: r∧SlF S f y W∧Pend S q r W
theorem Pend.kept {S : Nat→Prop} {W W' : World} (hb:∀ k,S k→W'.heap[k]?=W.heap[k]?) : ∀ (q:List Fo) (ys:List Value),Pend S q ys W→Pend S q ys W'
 | [],_,h=>h
 | _ :: q,_,⟨y,r,e,h1,h2⟩=>⟨y,r,e,h1.kept hb,Pend.kept hb q r h2⟩
theorem Pend.length {S : Nat→Prop} {W : World} : ∀ (q:List Fo) (ys:List Value),Pend S q ys W→ys.length=q.length
 | [],_,h=>by cases h; rfl
 | _ :: q,_,⟨y,r,e,h1,h2⟩=>by subst e; simp [Pend.length q r h2]
theorem evP_len : ∀ q : List Fo,q.length≤(evP q).length
 | []=>Nat.le_refl _
 | f :: q=>by have:=evP_len q; simp [evP]; omega
end Go.Proofs.YtekoaheiapddiaaGreat
end
section
namespace Go.Proofs.YtekoaheiapddiaaGreat
open Go.RowKit
theorem infoItem' : (Tryz.prog.info? 198).map (fun i=>(i.zero,i.size,i.bytes))=some (some (.agg #[.bool false,.string ⟨#[]⟩,.slice none 0 0]),3,48):=by kernel_rfl
theorem addr_add (g o j : Nat) : (⟨g,o,none⟩ : Addr).add j=⟨g,o+j,none⟩:=by unfold Addr.add; split <;> simp_all
theorem Fo.At.cells {S : Nat→Prop} {W : World} : ∀ (f:Fo) (g o : Nat),f.At S g o W→∃ xs,Cel S f xs W∧(∀ j u,xs[j]?=some u→W.cell? ⟨g,o+j,none⟩=some u)∧∀ u∈xs,u.oneCell'=true:=by
 intro f
 induction f with
 | nil=>intro g o _; exact⟨[],rfl,fun j u h=>by simp at h,fun u h=>by simp at h⟩
 | text s r ih=>
  intro g o ⟨⟨h1,h2,h3⟩,h4⟩
  obtain⟨ys,a1,a2,a3⟩:=ih g _ h4
  refine⟨_,⟨ys,rfl,a1⟩,fun j u hj=>?_,fun u hu=>?_⟩
  ·rcases j with _ | _ | _ | j
   ·simp at hj; subst hj; exact h1
   ·simp at hj; subst hj; exact h2
   ·simp at hj; subst hj; exact h3
   ·rw [show o+(j+1+1+1)=o+3+j by omega]; exact a2 j u (by simpa using hj)
  ·simp only [List.mem_cons] at hu
   rcases hu with rfl | rfl | rfl | hu
   ·rfl
   ·rfl
   ·rfl
   ·exact a3 u hu
 | list i r _ ih=>
  intro g o ⟨⟨h1,h2,v,h3,h5⟩,h4⟩
  obtain⟨ys,a1,a2,a3⟩:=ih g _ h4
  have hv : SlF S i v W:=h5
  refine⟨_,⟨v,ys,rfl,hv,a1⟩,fun j u hj=>?_,fun u hu=>?_⟩
  ·rcases j with _ | _ | _ | j
   ·simp at hj; subst hj; exact h1
   ·simp at hj; subst hj; exact h2
   ·simp at hj; subst hj; exact h3
   ·rw [show o+(j+1+1+1)=o+3+j by omega]; exact a2 j u (by simpa using hj)
  ·simp only [List.mem_cons] at hu
   rcases hu with rfl | rfl | rfl | hu
   ·rfl
   ·rfl
   ·obtain⟨a,n,c,rfl⟩:=hv.form; rfl
   ·exact a3 u hu
def Ow (B:Nat) (v:Value) (W:World) : Prop:=∃ g n cap cur,v=.slice (some ⟨g,0,none⟩) n cap∧B≤g∧W.heap[g]?=some (.cells cur 198 (0,0))
set_option maxRecDepth 100000 in
set_option maxHeartbeats 1000000 in
theorem clone_c {S : Nat→Prop} {f : Fo} {v : Value} {W : World} (h:SlF S f v W) (hS:∀ k,S k→k<W.heap.size) (hn:f.len≤1000000) :
  Calls Tryz.prog 262 #[v] W fun e W'=>∃ v',e=.returned v'∧Below W.heap.size W W'∧(v=.slice none 0 0→v'=.slice none 0 0)∧SlF (fun k=>S k∨(W.heap.size≤k∧∃ cur,W'.heap[k]?=some (.cells cur 198 (0,0)))) f v' W'∧(v'=.slice none 0 0∨Ow W.heap.size v' W'):=by
 have hq : ∀ (w:World) (a:Option Addr) (n c n' c' : Nat),(binOp .eql 196 (.slice a n c) (.slice none n' c')).run Tryz.prog w=.ok (.bool a.isNone) w:=fun w a n c n' c'=>Lib.run_eql_slice_nil w _ _ a n c n' c' Tryz.underlying196
 rcases h with ⟨rfl,rfl⟩ | ⟨g,o,c,rfl,hg,hc,ha⟩
 ·go_enter Tryz.func262,Tryz.ntmps262
  go_wp2_with fail
  go_ret
  exact⟨_,rfl,Below.refl _ _,fun _=>rfl,Or.inl ⟨rfl,rfl⟩,Or.inl rfl⟩
 ·obtain⟨xs,hx1,hx2,hx3⟩:=Fo.At.cells f g o ha
  have HX:=Lib.hid (And.intro hx1 (And.intro hx2 (And.intro hx3 hg)))
  clear ha hx1 hx2 hx3 hg
  go_enter Tryz.func262,Tryz.ntmps262
  obtain⟨i0,hi,hz0,hz1,hz2⟩:=info_parts infoItem'
  have HI:=Lib.hid (And.intro hi (And.intro hz0 (And.intro hz1 hz2)))
  clear hi hz0 hz1 hz2
  have hcel:=Lib.hid (Cel.length f xs HX.out.1)
  go_wp2_with (at_builtin; refine wpList_append_own_at _ rfl _ _ 196 rfl W.heap.size 198 i0 _ 3 48 Tryz.underlying196 HI.out.1 HI.out.2.1 HI.out.2.2.1 HI.out.2.2.2 rfl (by omega) _ 0 [] (by rfl) (World.ownsRow_made W #[] 0 (Nat.le_refl _) (by simp) (by simp)) ⟨g,o,none⟩ f.len c xs (by rfl) hcel.out (fun j u hj=>by rw [addr_add]; exact (World.cell?_of_block (Below.heap_alloc _ _ _ (hS g HX.out.2.2.2))).trans (HX.out.2.1 j u hj)) HX.out.2.2.1 (by unfold maxLen; omega) (by omega) (by simp) ?_; intro v2 W2 hown2 hgr2 hnil2 hbl2; obtain⟨a2,n2,c2,rfl⟩ : ∃ a n c,v2=.slice a n c:=(by rcases hown2.2 with ⟨rfl,_⟩ | ⟨g',cap',cur',rfl,_⟩ <;> exact⟨_,_,_,rfl⟩); have HG:=Lib.hid (And.intro hown2 (And.intro hgr2 hnil2)); clear hown2 hgr2 hnil2 hbl2)
  go_ret
  obtain⟨hown,hgr,hnil⟩:=HG.out
  rw [Nat.zero_add,List.nil_append] at hown
  have hk : ∀ k,k<W.heap.size→W2.heap[k]?=W.heap[k]?:=fun k hk=>(hgr.block k (by simp; omega) (fun e=>by simp [Value.ownBlock] at e; omega)).trans (Below.heap_alloc _ _ _ hk)
  have hsz : W.heap.size≤W2.heap.size:=by have:=hgr.size; simp at this; omega
  have hc2 : Cel (fun k=>S k∨(W.heap.size≤k∧∃ cur,W2.heap[k]?=some (.cells cur 198 (0,0)))) f xs W2:=(HX.out.1.kept (fun k h=>hk k (hS k h)) f xs).mono (fun k h=>Or.inl h) f xs
  rcases hown.2 with ⟨e,_⟩ | ⟨g',cap',cur',e,hb',hg',hn',_,_,_⟩
  ·exact absurd (hnil.1 e).1 (by simp)
  ·refine⟨_,rfl,⟨hgr.os,hgr.tape,hgr.output,hsz,hk⟩,fun h=>by simp at h,Or.inr ⟨g',0,cap',e,Or.inr ⟨hb',cur',hg'⟩,hn',?_⟩,Or.inr ⟨g',_,cap',cur',e,hb',hg'⟩⟩
   refine Cel.at f xs 0 (fun j u hj=>?_) hc2
   have h:=hown.cells (g:=g') (by rw [e]; rfl) j u hj
   rw [addr_add] at h
   exact h
end Go.Proofs.YtekoaheiapddiaaGreat
end
section
namespace Go.Proofs.YtekoaheiapddiaaGreat
open Go.RowKit
theorem infoSl : (Tryz.prog.info? 196).map (fun i=>(i.zero,i.size,i.bytes))=some (some (.slice none 0 0),1,24):=by kernel_rfl
section
variable {σ : Type} {nb nt ne : FuncId} {p : Value}
structure WI (K:Sink σ nb nt ne p) (S:Nat→Prop) (w:World) (q:List Fo) (s:σ) (W:World) : Prop where
 st : K.St s W
 fb : W.heap[w.heap.size+1]?=some (.cells #[.func (.func nb) #[p] #[]] 1 (0,0))
 ftx : W.heap[w.heap.size+2]?=some (.cells #[.func (.func nt) #[p] #[]] 189 (0,0))
 op : ∃ vo ys,W.heap[w.heap.size+3]?=some (.cells #[vo] 342 (0,0))∧W.ownsRow (w.heap.size+4) 196 1 vo q.length ys.reverse∧Pend S q ys W∧∀ k,vo.ownBlock=some k→¬ K.ft W k
 fr : ∀ k,k<w.heap.size→¬ K.ft w k→W.heap[k]?=w.heap[k]?
 fn : ∀ k,K.ft W k→(k<w.heap.size∧K.ft w k)∨w.heap.size+4≤k
 size : w.heap.size+4≤W.heap.size
 os : W.os=w.os
 tape : W.tape=w.tape
 output : W.output=w.output
variable {K : Sink σ nb nt ne p} {S : Nat→Prop} {w W : World} {q : List Fo} {s : σ}
theorem WI.alloc (h:WI K S w q s W) (hS:∀ k,S k→k<w.heap.size∧¬ K.ft w k) (o:Obj) : WI K S w q s (W.alloc o):=by
 have hs:=h.size
 have ho : ∀ k,k<W.heap.size→(W.alloc o).heap[k]?=W.heap[k]?:=fun k hk=>Below.heap_alloc _ _ _ hk
 obtain⟨h1,h2⟩:=K.kept s W (W.alloc o) h.st (fun k hk=>ho k (K.lt _ _ _ h.st hk)) (by simp)
 obtain⟨vo,ys,a1,a2,a3,a4⟩:=h.op
 exact⟨h1,(ho _ (by omega)).trans h.fb,(ho _ (by omega)).trans h.ftx,⟨vo,ys,(ho _ (by omega)).trans a1,a2.alloc o,a3.kept (fun k hk=>ho k (by have:=(hS k hk).1; omega)) _ _,fun k hk hf=>a4 k hk ((h2 k).1 hf)⟩,
   fun k hk hn=>(ho k (by omega)).trans (h.fr k hk hn),fun k hk=>h.fn k ((h2 k).1 hk),by simp; omega,h.os,h.tape,h.output⟩
theorem WI.sink {s' : σ} {W' : World} (h:WI K S w q s W) (hS:∀ k,S k→k<w.heap.size∧¬ K.ft w k) (h1:K.St s' W') (hc:Chg (K.ft W) (K.ft W') W W') : WI K S w q s' W':=by
 have hs:=h.size
 have ho : ∀ k,k<w.heap.size+4→¬ (k<w.heap.size∧K.ft w k)→W'.heap[k]?=W.heap[k]?:=fun k hk hn=>hc.block k (by omega) (fun hf=>(h.fn k hf).elim hn (by omega))
 obtain⟨vo,ys,a1,a2,a3,a4⟩:=h.op
 refine⟨h1,(ho _ (by omega) (by omega)).trans h.fb,(ho _ (by omega) (by omega)).trans h.ftx,⟨vo,ys,(ho _ (by omega) (by omega)).trans a1,own_keep a2 (fun k hk=>hc.block k (a2.lt k hk).2 (a4 k hk)),a3.kept (fun k hk=>ho k (by have:=(hS k hk).1; omega) (fun hh=>(hS k hk).2 hh.2)) _ _,fun k hk hf=>(hc.new k hf).elim (a4 k hk) (by have:=(a2.lt k hk).2; omega)⟩,
   fun k hk hn=>(ho k (by omega) (fun hh=>hn hh.2)).trans (h.fr k hk hn),fun k hk=>(hc.new k hk).elim (h.fn k) (fun h2=>Or.inr (by omega)),Nat.le_trans hs hc.size,hc.os.trans h.os,hc.tape.trans h.tape,hc.output.trans h.output⟩
theorem WI.own {q' : List Fo} {W' : World} {vo vo' : Value} {ys' : List Value} (h:WI K S w q s W)
  (hvo:W.heap[w.heap.size+3]?=some (.cells #[vo] 342 (0,0)))
  (hb:∀ k,k<W.heap.size→k≠w.heap.size+3→vo.ownBlock≠some k→W'.heap[k]?=W.heap[k]?) (hsz:W.heap.size≤W'.heap.size) (hos:W'.os=W.os) (ht:W'.tape=W.tape) (hout:W'.output=W.output)
  (h1:W'.heap[w.heap.size+3]?=some (.cells #[vo'] 342 (0,0))) (h2:W'.ownsRow (w.heap.size+4) 196 1 vo' q'.length ys'.reverse) (h3:Pend S q' ys' W') (h4:∀ k,vo'.ownBlock=some k→vo.ownBlock=some k∨W.heap.size≤k) : WI K S w q' s W':=by
 have hs:=h.size
 obtain⟨vo0,ys,a1,a2,a3,a4⟩:=h.op
 obtain rfl : vo=vo0:=by rw [a1] at hvo; simpa using hvo.symm
 have hk : ∀ k,K.ft W k→W'.heap[k]?=W.heap[k]?:=fun k hf=>hb k (K.lt _ _ _ h.st hf) (fun e=>by have:=h.fn k hf; omega) (fun e=>a4 k e hf)
 obtain⟨b1,b2⟩:=K.kept s W W' h.st hk hsz
 have hlo : ∀ k,k<w.heap.size+3→W'.heap[k]?=W.heap[k]?:=fun k hk=>hb k (by omega) (by omega) (fun e=>by have:=(a2.lt k e).1; omega)
 exact⟨b1,(hlo _ (by omega)).trans h.fb,(hlo _ (by omega)).trans h.ftx,⟨vo',ys',h1,h2,h3,fun k hk hf=>by
   have hf':=(b2 k).1 hf
   rcases h4 k hk with h5 | h5
   · exact a4 k h5 hf'
   · have:=K.lt _ _ _ h.st hf'; omega⟩,
   fun k hk hn=>(hlo k (by omega)).trans (h.fr k hk hn),fun k hk=>h.fn k ((b2 k).1 hk),by omega,hos.trans h.os,ht.trans h.tape,hout.trans h.output⟩
theorem WI.fresh (h:WI K S w q s W) (o:Obj) : ¬ K.ft (W.alloc o) W.heap.size:=fun hf=>by
 obtain⟨_,h2⟩:=K.kept s W (W.alloc o) h.st (fun k hk=>Below.heap_alloc _ _ _ (K.lt _ _ _ h.st hk)) (by simp)
 have:=K.lt _ _ _ h.st ((h2 _).1 hf)
 omega
set_option maxRecDepth 100000 in
set_option maxHeartbeats 1000000 in
theorem enter_text (hS:∀ k,S k→k<w.heap.size∧¬ K.ft w k) (t:List UInt8) (h:WI K S w q s W) (hok:K.ok s (.txt t)) :
  Calls Tryz.prog 270 #[.agg #[.bool false,.string (str t),.slice none 0 0],.pointer (some ⟨w.heap.size+2,0,none⟩),.pointer (some ⟨w.heap.size+1,0,none⟩),.pointer (some ⟨w.heap.size+3,0,none⟩)] W
   fun e W'=>e=.returned (.tuple #[])∧WI K S w q (K.step s (.txt t)) W':=by
 have hs:=Lib.hid h.size
 have H:=Lib.hid h
 have H1:=Lib.hid (h.alloc hS (.cells #[.bool false,.string (str t),.slice none 0 0] 198))
 have c0 : (W.alloc (.cells #[.bool false,.string (str t),.slice none 0 0] 198)).cell? ⟨w.heap.size+2,0,none⟩=some (.func (.func nt) #[p] #[]):=cell_of H1.out.ftx 0
 have HC:=Lib.hid (K.ct s t _ H1.out.st hok)
 generalize str t=x at *
 have et:=K.et
 clear h hok
 go_enter Tryz.func270,Tryz.ntmps270
 go_wp2_with fail
 refine HC.out.mono ?_
 rintro e W2 ⟨rfl,hst,hc⟩
 have H2:=Lib.hid (H1.out.sink hS hst hc)
 clear hst hc
 go_wp2_with fail
 first
  | (go_end0; exact⟨rfl,H2.out⟩)
  | (refine bodyPost_ret (results_none rfl _ _ _) rfl ⟨rfl,H2.out⟩)
set_option maxRecDepth 100000 in
set_option maxHeartbeats 1000000 in
theorem enter_list (hS:∀ k,S k→k<w.heap.size∧¬ K.ft w k) (i:Fo) (va:Option Addr) (vn vc : Nat) (hv:SlF S i (.slice va vn vc) W) (h:WI K S w q s W) (hok:K.ok s .bgn) (hq:q.length<1000000) :
  Calls Tryz.prog 270 #[.agg #[.bool true,.string ⟨#[]⟩,.slice va vn vc],.pointer (some ⟨w.heap.size+2,0,none⟩),.pointer (some ⟨w.heap.size+1,0,none⟩),.pointer (some ⟨w.heap.size+3,0,none⟩)] W
   fun e W'=>e=.returned (.tuple #[])∧WI K S w (i :: q) (K.step s .bgn) W':=by
 have hs:=Lib.hid h.size
 have H:=Lib.hid (And.intro h hv)
 have H1:=Lib.hid (h.alloc hS (.cells #[.bool true,.string ⟨#[]⟩,.slice va vn vc] 198))
 have c0 : (W.alloc (.cells #[.bool true,.string ⟨#[]⟩,.slice va vn vc] 198)).cell? ⟨w.heap.size+1,0,none⟩=some (.func (.func nb) #[p] #[]):=cell_of H1.out.fb 0
 have HN:=Lib.hid (heap_alloc_new W (.cells #[.bool true,.string ⟨#[]⟩,.slice va vn vc] 198))
 have HC:=Lib.hid (K.cb s _ H1.out.st hok)
 have eb:=K.eb
 clear h hok hv
 go_enter Tryz.func270,Tryz.ntmps270
 go_wp2_with fail
 refine HC.out.mono ?_
 rintro e W2 ⟨rfl,hst,hc⟩
 have H2:=Lib.hid (H1.out.sink hS hst hc)
 have hbox : W2.heap[W.heap.size]?=some (.cells #[.bool true,.string ⟨#[]⟩,.slice va vn vc] 198 (0,0)):=(hc.block _ (by simp) (H.out.1.fresh _)).trans HN.out
 have c1 : W2.cell? ⟨W.heap.size,2,none⟩=some (.slice va vn vc):=cell_of hbox 2
 have hv2 : SlF S i (.slice va vn vc) W2:=H.out.2.kept (fun k hk=>(H2.out.fr k (hS k hk).1 (hS k hk).2).trans (H.out.1.fr k (hS k hk).1 (hS k hk).2).symm)
 obtain⟨vo,ys,a1,a2,a3,a4⟩:=H2.out.op
 have c2 : W2.cell? ⟨w.heap.size+3,0,none⟩=some vo:=cell_of a1 0
 have HA:=Lib.hid (And.intro a1 (And.intro a2 (And.intro a3 hv2)))
 have hw2:=Lib.hid H2.out.size
 clear hst hc hbox hv2 a1 a2 a3 a4
 obtain⟨oa,on,oc,rfl⟩ : ∃ a n c,vo=.slice a n c:=by
  rcases HA.out.2.1.2 with ⟨rfl,_⟩ | ⟨g,cap,cur,rfl,_⟩
  ·exact⟨_,_,_,rfl⟩
  ·exact⟨_,_,_,rfl⟩
 go_wp2_with (at_builtin; refine wpList_append_one (by rfl) _ _ 342 196 (by rfl) Tryz.underlying342 _ 24 infoSl rfl (by omega) (w.heap.size+4) _ q.length ys.reverse (by rfl) (HA.out.2.1.alloc _) W2.heap.size (.slice va vn vc) rfl (by rfl) (heap_alloc_new _ _) (Nat.le_trans hw2.out (by simp)) (by omega) ?_; intro v3 W3 hown3 hgr3 hbl3; obtain⟨g3,cap3,rfl,hg3,hg3b,hg3c⟩:=own_form hown3; have HG3:=Lib.hid (And.intro hg3 hg3b); clear hg3 hg3b hg3c; have HG:=Lib.hid (And.intro hown3 (And.intro hgr3 hbl3)); have hne:=(show ∀ k,(Value.slice oa on oc).ownBlock=some k→w.heap.size+4≤k∧k<W2.heap.size from fun k hk=>HA.out.2.1.lt k hk); have h3b : W3.heap[w.heap.size+3]?=some (.cells #[.slice oa on oc] 342 (0,0)):=(hgr3.block _ (by have:=hw2.out; simp; omega) (fun e=>by have:=hne _ e.symm; omega)).trans ((Below.heap_alloc _ _ _ (by have:=hw2.out; omega)).trans HA.out.1); have c3 : W3.cell? ⟨w.heap.size+3,0,none⟩=some (.slice oa on oc):=cell_of h3b 0; have z3:=free_of h3b 0; have H3:=Lib.hid (And.intro h3b hne); clear h3b hown3 hgr3 hbl3 hne)
 have hfin : WI K S w (i :: q) (K.step s .bgn) (W3.setCell ⟨w.heap.size+3,0,none⟩ (.slice (some ⟨g3,0,none⟩) (q.length+1) cap3)):=by
  have hw:=hw2.out
  have hk : ∀ k,k<W2.heap.size→k≠w.heap.size+3→(Value.slice oa on oc).ownBlock≠some k→(W3.setCell ⟨w.heap.size+3,0,none⟩ (.slice (some ⟨g3,0,none⟩) (q.length+1) cap3)).heap[k]?=W2.heap[k]?:=fun k h1 h2 h3=>by
   rw [heap_setCell_other _ _ _ _ (by simpa using h2)]
   exact (HG.out.2.1.block k (by simp; omega) (fun e=>h3 e.symm)).trans (Below.heap_alloc _ _ _ h1)
  have hkS : ∀ k,S k→(W3.setCell ⟨w.heap.size+3,0,none⟩ (.slice (some ⟨g3,0,none⟩) (q.length+1) cap3)).heap[k]?=W2.heap[k]?:=fun k hkS=>by
   have h1:=(hS k hkS).1
   refine hk k (by omega) (by omega) (fun e=>?_)
   have:=(H3.out.2 k e).1
   omega
  refine H2.out.own (vo:=.slice oa on oc) (vo':=.slice (some ⟨g3,0,none⟩) (q.length+1) cap3) (ys':=.slice va vn vc :: ys) HA.out.1 hk ?_ ?_ ?_ ?_ ?_ ?_ ?_ ?_
  ·have:=HG.out.2.1.size
   simp at this
   simp [World.setCell]; omega
  ·exact HG.out.2.1.os
  ·exact HG.out.2.1.tape
  ·exact HG.out.2.1.output
  ·simpa using heap_setCell_same _ _ 0 _ _ (.slice (some ⟨g3,0,none⟩) (q.length+1) cap3) H3.out.1
  ·rw [List.reverse_cons]
   refine own_keep HG.out.1 (fun k hk=>?_)
   have hk : g3=k:=by simpa [Value.ownBlock] using hk
   have:=HG3.out.1
   rw [heap_setCell_other _ _ _ _ (by simp; omega)]
  ·exact⟨_,_,rfl,HA.out.2.2.2.kept hkS,HA.out.2.2.1.kept hkS _ _⟩
  ·intro k hk
   rcases HG.out.2.2 with h | h
   ·left; rw [← h]; exact hk
   ·right; rw [h] at hk; injection hk with hk; simp at hk; omega
 first
  | (go_end0; exact⟨rfl,hfin⟩)
  | (refine bodyPost_ret (results_none rfl _ _ _) rfl ⟨rfl,hfin⟩)
end
end Go.Proofs.YtekoaheiapddiaaGreat
end
section
namespace Go.Proofs.YtekoaheiapddiaaGreat
open Go.RowKit
theorem exists_least {P : Nat→Prop} (h:∃ n,P n) : ∃ n,P n∧∀ m,P m→n≤m:=by
 obtain⟨n,hn⟩:=h
 induction n using Nat.strongRecOn with
 | ind n ih=>
  by_cases hm : ∃ m,m<n∧P m
  ·obtain⟨m,h1,h2⟩:=hm
   exact ih m h1 h2
  ·exact⟨n,hn,fun m h=>Nat.le_of_not_lt fun hlt=>hm ⟨m,hlt,h⟩⟩
open Classical in
noncomputable def least (P:Nat→Prop) : Nat:=if h : ∃ n,P n then Classical.choose (exists_least h) else 0
theorem least_spec {P : Nat→Prop} (h:∃ n,P n) : P (least P):=by
 unfold least
 rw [dif_pos h]
 exact (Classical.choose_spec (exists_least h)).1
theorem least_le {P : Nat→Prop} {m : Nat} (h:P m) : least P≤m:=by
 unfold least
 rw [dif_pos ⟨m,h⟩]
 exact (Classical.choose_spec (exists_least ⟨m,h⟩)).2 m h
def It.evs : It→List Ev
 | .text s=>[.txt s]
 | .list i=>.bgn :: i.evs ++ [.fin]
def It.ev1 : It→Ev
 | .text s=>.txt s
 | .list _=>.bgn
def It.qs : It→List Fo
 | .text _=>[]
 | .list i=>[i]
theorem It.evs_eq (x:It) : x.evs=x.ev1 :: evP x.qs:=by cases x <;> rfl
section
variable {σ : Type} {nb nt ne : FuncId} {p : Value}
def WP (K:Sink σ nb nt ne p) (S:Nat→Prop) (w:World) (sf:σ) (W:World) (n:Nat) : Prop:=
 ∃ q s,WI K S w q s W∧goodE K.step K.ok s (evP q)∧runE K.step s (evP q)=sf∧n=(evP q).length∧n<900000
theorem WP.less {K : Sink σ nb nt ne p} {S : Nat→Prop} {w : World} {sf : σ} {W : World} {n : Nat} (h:WP K S w sf W n) {m : Nat} (hn:n<m) : (∃ n,WP K S w sf W n)∧least (WP K S w sf W)<m:=
 ⟨⟨n,h⟩,Nat.lt_of_le_of_lt (least_le h) hn⟩
variable {K : Sink σ nb nt ne p} {S : Nat→Prop} {w W : World} {s : σ}
theorem WI.top {f : Fo} {q : List Fo} (h:WI K S w (f :: q) s W) : ∃ g cap y ys,W.heap[w.heap.size+3]?=some (.cells #[.slice (some ⟨g,0,none⟩) (q.length+1) cap] 342 (0,0)) ∧
  W.ownsRow (w.heap.size+4) 196 1 (.slice (some ⟨g,0,none⟩) (q.length+1) cap) (q.length+1) (ys.reverse ++ [y])∧SlF S f y W∧Pend S q ys W∧w.heap.size+4≤g∧g<W.heap.size∧q.length+1≤cap:=by
 obtain⟨vo,ys,a1,a2,⟨y,r,rfl,a3,a4⟩,a5⟩:=h.op
 obtain⟨g,cap,rfl,b1,b2,b3⟩:=own_form a2
 rw [List.reverse_cons] at a2
 exact⟨g,cap,y,r,a1,a2,a3,a4,b1,b2,b3⟩
theorem WI.chg {q : List Fo} (h:WI K S w q s W) : Chg (K.ft w) (K.ft W) w W:=
 ⟨h.os,h.tape,h.output,by have:=h.size; omega,h.fr,fun k hk=>(h.fn k hk).elim (fun h=>Or.inl h.2) (fun h=>Or.inr (by omega))⟩
theorem WI.pop {f : Fo} {q : List Fo} {g cap : Nat} {y : Value} {ys : List Value} (h:WI K S w (f :: q) s W) (hS:∀ k,S k→k<w.heap.size∧¬ K.ft w k) (a1:W.heap[w.heap.size+3]?=some (.cells #[.slice (some ⟨g,0,none⟩) (q.length+1) cap] 342 (0,0)))
  (a2:W.ownsRow (w.heap.size+4) 196 1 (.slice (some ⟨g,0,none⟩) (q.length+1) cap) (q.length+1) (ys.reverse ++ [y])) (a4:Pend S q ys W) (a5:w.heap.size+4≤g) : WI K S w q s (W.setCell ⟨w.heap.size+3,0,none⟩ (.slice (some ⟨g,0,none⟩) q.length cap)):=by
 have hk : ∀ k,k≠w.heap.size+3→(W.setCell ⟨w.heap.size+3,0,none⟩ (.slice (some ⟨g,0,none⟩) q.length cap)).heap[k]?=W.heap[k]?:=fun k hk=>heap_setCell_other _ _ _ _ (by simpa using hk)
 refine h.own (vo:=.slice (some ⟨g,0,none⟩) (q.length+1) cap) (vo':=.slice (some ⟨g,0,none⟩) q.length cap) (ys':=ys) a1 (fun k _ h2 _=>hk k h2) (by simp [World.setCell]) rfl rfl rfl ?_ ?_ ?_ (fun k hk=>Or.inl hk)
 ·simpa using heap_setCell_same _ _ 0 _ _ (.slice (some ⟨g,0,none⟩) q.length cap) a1
 ·refine own_keep (own_pop a2) (fun k hkk=>hk k ?_)
  have : g=k:=by simpa [Value.ownBlock] using hkk
  omega
 ·exact a4.kept (fun k hkS=>hk k (by have:=(hS k hkS).1; omega)) _ _
theorem WI.drew {q : List Fo} (h:WI K S w q s W) : WI K S w q s W.drew:=by
 obtain⟨h1,h2⟩:=K.kept s W W.drew h.st (fun _ _=>rfl) (Nat.le_refl _)
 obtain⟨vo,ys,a1,a2,a3,a4⟩:=h.op
 exact⟨h1,h.fb,h.ftx,⟨vo,ys,a1,own_keep a2 (fun _ _=>rfl),Pend.kept (W:=W) (W':=W.drew) (fun _ _=>rfl) _ _ a3,fun k hk hf=>a4 k hk ((h2 k).1 hf)⟩,h.fr,fun k hk=>h.fn k ((h2 k).1 hk),h.size,h.os,h.tape,h.output⟩
theorem WI.next {f r : Fo} {q : List Fo} {g cap : Nat} {y y' : Value} {ys : List Value} (h:WI K S w (f :: q) s W) (hS:∀ k,S k→k<w.heap.size∧¬ K.ft w k) (a1:W.heap[w.heap.size+3]?=some (.cells #[.slice (some ⟨g,0,none⟩) (q.length+1) cap] 342 (0,0)))
  (a2:W.ownsRow (w.heap.size+4) 196 1 (.slice (some ⟨g,0,none⟩) (q.length+1) cap) (q.length+1) (ys.reverse ++ [y])) (a4:Pend S q ys W) (a5:w.heap.size+4≤g) (hy:SlF S r y' W) : WI K S w (r :: q) s (W.setCell ⟨g,q.length,none⟩ y'):=by
 have hk : ∀ k,k≠g→(W.setCell ⟨g,q.length,none⟩ y').heap[k]?=W.heap[k]?:=fun k hk=>heap_setCell_other _ _ _ _ (by simpa using hk)
 have hl : ys.length=q.length:=a4.length
 refine h.own (vo:=.slice (some ⟨g,0,none⟩) (q.length+1) cap) (vo':=.slice (some ⟨g,0,none⟩) (q.length+1) cap) (ys':=y' :: ys) a1 (fun k _ _ h3=>hk k (fun e=>h3 (by rw [e]; rfl))) (by simp [World.setCell]) rfl rfl rfl ?_ ?_ ?_ (fun k hk=>Or.inl hk)
 ·rw [hk _ (by omega)]; exact a1
 ·have h:=own_setAt a2 rfl q.length y'
  rw [List.set_append_right _ _ (by simp; omega),List.length_reverse,hl,Nat.sub_self] at h
  rw [List.reverse_cons]
  exact h
 ·have hkS : ∀ k,S k→(W.setCell ⟨g,q.length,none⟩ y').heap[k]?=W.heap[k]?:=fun k hkS=>hk k (by have:=(hS k hkS).1; omega)
  exact⟨_,_,rfl,hy.kept hkS,a4.kept hkS _ _⟩
theorem evP_item (it:It) (r:Fo) (q:List Fo) : evP (it.fo r :: q)=it.ev1 :: evP (it.qs ++ r :: q):=by
 cases it with
 | text t=>rfl
 | list i=>simp [evP,It.fo,It.qs,It.ev1,Fo.evs]
theorem SlF.first {it : It} {r : Fo} {y : Value} (h:SlF S (it.fo r) y W) : ∃ g o c b t a n c',y=.slice (some ⟨g,o,none⟩) (r.len+1) c∧r.len+1≤c∧W.cell? ⟨g,o,none⟩=some (.bool b)∧W.cell? ⟨g,o+1,none⟩=some (.string t)∧W.cell? ⟨g,o+2,none⟩=some (.slice a n c') ∧
  ItV S it (.agg #[.bool b,.string t,.slice a n c']) W∧∀ o',(c=1∨o'=o+3)→SlF S r (.slice (some ⟨g,o',none⟩) r.len (c-1)) W:=by
 rcases h with ⟨_,h0⟩ | ⟨g,o,c,rfl,hg,hc,ha⟩
 ·cases it <;> cases h0
 ·have hr : ∀ hrest : r.At S g (o+3) W,r.len+1≤c→∀ o',(c=1∨o'=o+3)→SlF S r (.slice (some ⟨g,o',none⟩) r.len (c-1)) W:=by
   intro hrest hc o' ho
   right
   refine⟨g,o',c-1,rfl,hg,by omega,?_⟩
   rcases ho with ho | ho
   ·have hl : r.len=0:=by omega
    cases r with
    | nil=>trivial
    | text s r=>simp [Fo.len] at hl
    | list i r=>simp [Fo.len] at hl
   ·rw [ho]; exact hrest
  cases it with
  | text t=>
   obtain⟨⟨h1,h2,h3⟩,h4⟩:=ha
   exact⟨g,o,c,false,str t,none,0,0,rfl,hc,h1,h2,h3,rfl,hr h4 hc⟩
  | list i=>
   obtain⟨⟨h1,h2,v,h3,h4⟩,h5⟩:=ha
   have hv : SlF S i v W:=h4
   obtain⟨a,n,c',rfl⟩:=hv.form
   exact⟨g,o,c,true,⟨#[]⟩,a,n,c',rfl,hc,h1,h2,h3,⟨_,rfl,hv⟩,hr h5 hc⟩
theorem WI.empty (h:WI K S w [] s W) : ∃ a c,W.cell? ⟨w.heap.size+3,0,none⟩=some (.slice a 0 c):=by
 obtain⟨vo,ys,a1,a2,a3,a5⟩:=h.op
 rcases a2.2 with ⟨rfl,_⟩ | ⟨g,cap,cur,rfl,_⟩
 ·exact⟨_,_,cell_of a1 0⟩
 ·exact⟨_,_,cell_of a1 0⟩
theorem enter_c (hS:∀ k,S k→k<w.heap.size∧¬ K.ft w k) (x:It) (v:Value) {q : List Fo} (hv:ItV S x v W) (h:WI K S w q s W) (hok:K.ok s x.ev1) (hq:q.length<1000000) :
  Calls Tryz.prog 270 #[v,.pointer (some ⟨w.heap.size+2,0,none⟩),.pointer (some ⟨w.heap.size+1,0,none⟩),.pointer (some ⟨w.heap.size+3,0,none⟩)] W
   fun e W'=>e=.returned (.tuple #[])∧WI K S w (x.qs ++ q) (K.step s x.ev1) W':=by
 cases x with
 | text t=>cases hv; exact enter_text hS t h hok
 | list i=>
  obtain⟨u,rfl,hv⟩:=hv
  obtain⟨a,n,c,rfl⟩:=hv.form
  exact enter_list hS i a n c hv h hok hq
theorem init_old {w : World} {k : Nat} (hk:k<w.heap.size) (a b c d : Obj) : ((((w.alloc a).alloc b).alloc c).alloc d).heap[k]?=w.heap[k]?:=by
 rw [heap_alloc_get,if_neg (by simp; omega),heap_alloc_get,if_neg (by simp; omega),heap_alloc_get,if_neg (by simp; omega),heap_alloc_get,if_neg (by omega)]
theorem slice_one (g o k c : Nat) (W:World) : (Instr.slice 196 (.slice (some ⟨g,o,Option.none⟩) (k+1) c) (some (.int .i64 1)) Option.none Option.none).run Tryz.prog W=.ok (.slice (some ⟨g,if c=1 then o else o+3,Option.none⟩) k (c-1)) W:=by
 have he : (sizeOf (Tryz.prog.elem 196)).run Tryz.prog W=.ok 3 W:=by kernel_rfl
 rw [run_slice_l W 196 (some ⟨g,o,Option.none⟩) (k+1) c (by rw [Tryz.underlying196]; kernel_rfl) .i64 1 (by omega) (by omega),he]
 simp only [Result.andThen_ok]
 unfold sliced
 have h1 : Int.toNat 1=1:=rfl
 rw [h1]
 by_cases h : c=1
 ·rw [if_pos h,if_pos h]; rfl
 ·rw [if_neg h,if_neg h]
  have e : (⟨g,o,Option.none⟩ : Addr).add (1*3)=⟨g,o+3,Option.none⟩:=by unfold Addr.add; split <;> simp_all
  simp [e]
theorem WI.init (hst:K.St s w) (o:Obj) : WI K S w [] s ((((w.alloc o).alloc (.cells #[.func (.func nb) #[p] #[]] 1)).alloc (.cells #[.func (.func nt) #[p] #[]] 189)).alloc (.cells #[.slice none 0 0] 342)):=by
 have hk : ∀ k,k<w.heap.size→((((w.alloc o).alloc (.cells #[.func (.func nb) #[p] #[]] 1)).alloc (.cells #[.func (.func nt) #[p] #[]] 189)).alloc (.cells #[.slice none 0 0] 342)).heap[k]?=w.heap[k]?:=fun k hk=>by
  rw [heap_alloc_get,if_neg (by simp; omega),heap_alloc_get,if_neg (by simp; omega),heap_alloc_get,if_neg (by simp; omega),heap_alloc_get,if_neg (by omega)]
 obtain⟨h1,h2⟩:=K.kept s w _ hst (fun k hf=>hk k (K.lt _ _ _ hst hf)) (by simp; omega)
 refine⟨h1,?_,?_,⟨.slice none 0 0,[],?_,World.ownsRow_nil _ _ _ _,rfl,by simp [Value.ownBlock]⟩,fun k hkk _=>hk k hkk,fun k hf=>Or.inl ⟨K.lt _ _ _ hst ((h2 k).1 hf),(h2 k).1 hf⟩,by simp,rfl,rfl,rfl⟩
 ·rw [heap_alloc_get,if_neg (by simp),heap_alloc_get,if_neg (by simp),heap_alloc_get,if_pos (by simp)]
 ·rw [heap_alloc_get,if_neg (by simp),heap_alloc_get,if_pos (by simp)]
 ·rw [heap_alloc_get,if_pos (by simp)]
set_option maxRecDepth 100000 in
set_option maxHeartbeats 2000000 in
theorem walk_c (x:It) (v:Value) (w:World) (s:σ) (hS:∀ k,S k→k<w.heap.size∧¬ K.ft w k) (hv:ItV S x v w) (hst:K.St s w) (hok:goodE K.step K.ok s x.evs) (hn:x.evs.length<900000) :
  Calls Tryz.prog 254 #[v,.func (.func nb) #[p] #[],.func (.func nt) #[p] #[],.func (.func ne) #[p] #[]] w fun e w'=>e=.returned (.tuple #[])∧K.St (runE K.step s x.evs) w'∧Chg (K.ft w) (K.ft w') w w':=by
 have hmf : ∀ (fn:Fn) (first cap : Array Value) (w:World),(Instr.makeFunc fn first cap).run Tryz.prog w=.ok (.func fn first cap) w:=fun _ _ _ _=>rfl
 rw [x.evs_eq] at hok hn
 have HV:=Lib.hid (And.intro hv (And.intro hst (And.intro hok hn)))
 have HF:=Lib.hid (show runE K.step s x.evs=runE K.step (K.step s x.ev1) (evP x.qs) by rw [x.evs_eq]; rfl)
 obtain⟨xb,xt,xa,xn,xc,rfl⟩:=hv.form
 clear hv hst hok hn
 go_enter Tryz.func254,Tryz.ntmps254
 go_wp2_with (go_at_call 270; refine (enter_c hS x _ (HV.out.1.kept fun k hk=>init_old (hS k hk).1 _ _ _ _) (WI.init HV.out.2.1 _) HV.out.2.2.1.1 (by simp)).mono ?_; rintro e W1 ⟨rfl,h1⟩; have H1:=Lib.hid (show WP K S w (runE K.step s x.evs) W1 _ from⟨x.qs,_,by simpa using h1,HV.out.2.2.1.2,HF.out.symm,rfl,by have:=HV.out.2.2.2; simp at this; omega⟩); clear h1)
 have H2:=Lib.hid (And.intro (⟨_,H1.out⟩ : ∃ n,WP K S w (runE K.step s x.evs) W1 n) HV.out.2.1)
 clear H1 HV HF
 generalize hsf : runE K.step s x.evs=sf at *
 have HSF:=Lib.hid hsf; clear hsf
 go_loopw [] (fun wr=>∃ n,WP K S w sf wr n) (fun wr=>least (WP K S w sf wr))
 case atStart=>exact H2.out.1
 case round=>
  have hex:=hrel
  obtain⟨q,s1,hw,hgd,hrun,hlen,hlt⟩:=least_spec hex
  clear hex hrel
  have HL:=Lib.hid (And.intro hlen hlt)
  cases q with
  | nil=>
   obtain⟨ea,ec,ce⟩:=hw.empty
   have HE:=Lib.hid (And.intro hw hrun)
   clear hw hgd hrun hlen hlt
   go_wp2_with fail
   go_end0
   refine⟨rfl,?_,HE.out.1.chg⟩
   rw [HSF.out,← HE.out.2]
   exact HE.out.1.st
  | cons f q=>
   obtain⟨g,cap,y,ys,a1,a2,a3,a4,a5,a6,a7⟩:=hw.top
   have c0 : wr.cell? ⟨w.heap.size+3,0,none⟩=some (.slice (some ⟨g,0,none⟩) (q.length+1) cap):=cell_of a1 0
   have z0:=free_of a1 0
   obtain⟨c1,z1⟩:=own_top a2
   have HW:=Lib.hid (And.intro hw (And.intro hgd hrun))
   have HA:=Lib.hid (And.intro a1 (And.intro a2 (And.intro a3 (And.intro a4 (And.intro a5 a6)))))
   clear hw hgd hrun a1 a2 a4 a5 a6
   have hmb0:=evP_len (f :: q)
   have hmb : (q.length : Int)<900000:=by simp at hmb0; omega
   clear hmb0
   generalize hm : q.length=m at *
   have hi1 : (0:Int)≤(m:Int)∧(m:Int)<(m:Int)+1:=by omega
   have hf : f=.nil∨∃ it r,f=It.fo it r:=by
    cases f with
    | nil=>exact Or.inl rfl
    | text t r=>exact Or.inr ⟨.text t,r,rfl⟩
    | list i r=>exact Or.inr ⟨.list i,r,rfl⟩
   rcases hf with rfl | ⟨it,r,rfl⟩
   ·obtain⟨ya,yc,rfl⟩ : ∃ a c,y=.slice a 0 c:=by
     rcases a3 with ⟨rfl,_⟩ | ⟨g',o,c,rfl,_⟩
     ·exact⟨_,_,rfl⟩
     ·exact⟨_,_,rfl⟩
    clear a3 hlt hlen
    have HC:=Lib.hid (K.ce s1 wr HW.out.1.st HW.out.2.1.1)
    have ee:=K.ee
    go_wp2_with fail
    refine HC.out.mono ?_
    rintro e W2 ⟨rfl,hst2,hc2⟩
    have H3:=Lib.hid (HW.out.1.sink hS hst2 hc2)
    clear hst2 hc2 c0 z0 c1 z1
    obtain⟨g2,cap2,y2,ys2,b1,b2,b3,b4,b5,b6,b7⟩:=H3.out.top
    have c0 : W2.cell? ⟨w.heap.size+3,0,none⟩=some (.slice (some ⟨g2,0,none⟩) (q.length+1) cap2):=cell_of b1 0
    have z0:=free_of b1 0
    have HB:=Lib.hid (H3.out.pop hS b1 b2 b4 b5)
    clear b1 b2 b3 b4 b5 b6
    rw [hm] at c0 b7 HB
    have hi2 : (m:Int)≤(cap2:Int):=by omega
    go_wp2_with fail
    rw [HL.out.1]
    refine WP.less (n:=(evP q).length) ⟨q,K.step s1 .fin,HB.out,HW.out.2.1.2,HW.out.2.2,rfl,?_⟩ (by simp [evP,Fo.evs])
    have h1:=HL.out.1
    have h2:=HL.out.2
    rw [h1] at h2
    simp [evP,Fo.evs] at h2
    omega
   ·obtain⟨g',o,c,fb,ft,fa,fn,fc,rfl,hc1,d0,d1,d2,hit,hsl⟩:=a3.first
    have HI:=Lib.hid (And.intro hit hsl)
    clear hit hsl a3 hlt hlen
    rw [evP_item] at HW
    generalize hk : r.len=k at *
    have hk0 : (((k:Int)+1) == 0)=false:=by simp; omega
    have hk1 : (0:Int)<(k:Int)+1:=by omega
    have hk2 : (1:Int)≤(k:Int)+1:=by omega
    go_wp2_with fail
    have H4:=Lib.hid (HW.out.1.alloc hS (.cells #[.bool fb,.string ft,.slice fa fn fc] 198))
    have hlt:=HA.out.2.2.2.2.2
    have hlo:=HW.out.1.size
    have hold : ∀ k,k<wr.heap.size→(wr.alloc (.cells #[.bool fb,.string ft,.slice fa fn fc] 198)).heap[k]?=wr.heap[k]?:=fun k hk=>Below.heap_alloc _ _ _ hk
    have e0:=(World.cell?_of_block (a:=⟨w.heap.size+3,0,Option.none⟩) (hold (w.heap.size+3) (by omega))).trans c0
    have e1:=(World.cell?_of_block (a:=⟨g,m,Option.none⟩) (hold _ hlt)).trans c1
    have e2:=(World.frozen?_of_block (a:=⟨g,m,Option.none⟩) (hold _ hlt)).trans z1
    have HB:=Lib.hid (And.intro ((hold (w.heap.size+3) (by omega)).trans HA.out.1) (And.intro (HA.out.2.1.alloc (.cells #[.bool fb,.string ft,.slice fa fn fc] 198)) (Pend.kept (fun k hk=>hold k (by have:=(hS k hk).1; omega)) _ _ HA.out.2.2.2.1)))
    have HJ:=Lib.hid (And.intro (HI.out.1.kept (fun k hk=>hold k (by have:=(hS k hk).1; omega))) (fun o' ho=>(HI.out.2 o' ho).kept (fun k hk=>hold k (by have:=(hS k hk).1; omega))))
    have HN:=Lib.hid (And.intro (heap_alloc_new wr (.cells #[.bool fb,.string ft,.slice fa fn fc] 198)) (And.intro hlt (And.intro HA.out.2.2.2.2.1 (alloc_size wr (.cells #[.bool fb,.string ft,.slice fa fn fc] 198)))))
    clear hold hlt hlo c0 c1 z0 z1 d0 d1 d2
    generalize wr.alloc (.cells #[.bool fb,.string ft,.slice fa fn fc] 198)=W2 at *
    have hsl:=slice_one g' o k c
    obtain⟨o2,ho2⟩ : ∃ o2,(if c=1 then o else o+3)=o2:=⟨_,rfl⟩
    rw [ho2] at hsl
    have HO2:=Lib.hid ho2
    clear ho2
    go_still_tail 8,(by kernel_rfl)
    change wpList _ _ _ _ _ W2.drew
    have e3 : W2.drew.cell? ⟨g,m,Option.none⟩=some (.slice (some ⟨g',o,Option.none⟩) (k+1) c):=e1
    have e4 : W2.drew.frozen? ⟨g,m,Option.none⟩=false:=e2
    have H5:=Lib.hid H4.out.drew
    have HB5:=Lib.hid (show W2.drew.heap[w.heap.size+3]?=_∧W2.drew.ownsRow (w.heap.size+4) 196 1 _ _ _∧Pend S q ys W2.drew from⟨HB.out.1,own_keep HB.out.2.1 (fun _ _=>rfl),Pend.kept (W:=W2) (W':=W2.drew) (fun _ _=>rfl) _ _ HB.out.2.2⟩)
    have HJ5:=Lib.hid (show ItV S it _ W2.drew∧∀ o',(c=1∨o'=o+3)→SlF S r _ W2.drew from⟨ItV.kept (W:=W2) (W':=W2.drew) (fun _ _=>rfl) HJ.out.1,fun o' ho=>SlF.kept (W:=W2) (W':=W2.drew) (fun _ _=>rfl) (HJ.out.2 o' ho)⟩)
    have HN5:=Lib.hid (show W2.drew.heap[wr.heap.size]?=_∧g<wr.heap.size∧w.heap.size+4≤g∧W2.drew.heap.size=wr.heap.size+1 from HN.out)
    clear e0 e1 e2 H4 HB HJ HN hsl
    generalize W2.drew=W3 at *
    obtain⟨⟨f0,f1,f2⟩,_⟩:=cells3 HN5.out.1
    have hgn : ¬ g=wr.heap.size:=by have:=HN5.out.2.1; omega
    have hgn2 : ¬ wr.heap.size=g:=by omega
    have ho : c=1∨o2=o+3:=by
     have h:=HO2.out
     by_cases hc : c=1
     ·exact Or.inl hc
     ·rw [if_neg hc] at h; exact Or.inr h.symm
    have HM:=H5.out.next hS (by rw [hm]; exact HB5.out.1) (by rw [hm]; exact HB5.out.2.1) HB5.out.2.2 HN5.out.2.2.1 (HJ5.out.2 o2 ho)
    rw [hm] at HM
    replace HM:=Lib.hid HM
    have HVV:=Lib.hid (HJ5.out.1.kept (W':=W3.setCell ⟨g,m,Option.none⟩ (.slice (some ⟨g',o2,Option.none⟩) k (c-1))) (fun k hk=>heap_setCell_other _ _ _ _ (by have h1:=(hS k hk).1; have h2:=HN5.out.2.2.1; simp; omega)))
    clear ho
    have HQ:=Lib.hid (show (r :: q).length<1000000 by simp; omega)
    go_wp2_with fail
    refine (enter_c hS it _ HVV.out HM.out HW.out.2.1.1 HQ.out).mono ?_
    rintro e W4 ⟨rfl,h4⟩
    have H6:=Lib.hid h4
    clear h4
    go_wp2_with fail
    rw [HL.out.1,evP_item]
    refine WP.less (n:=(evP (it.qs ++ r :: q)).length) ⟨it.qs ++ r :: q,K.step s1 it.ev1,H6.out,HW.out.2.1.2,HW.out.2.2,rfl,?_⟩ (by simp)
    have h1:=HL.out.1
    have h2:=HL.out.2
    rw [h1,evP_item] at h2
    simp at h2 ⊢
    omega
end
end Go.Proofs.YtekoaheiapddiaaGreat
end
