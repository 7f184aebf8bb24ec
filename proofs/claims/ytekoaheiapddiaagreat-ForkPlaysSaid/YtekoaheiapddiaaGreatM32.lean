/- Merged: Ga, Gb, Gc, Gd. -/
import Derived.Test.YtekoaheiapddiaaGreatM31
import Derived.Test.YtekoaheiapddiaaGreatM09
section
namespace Go.Proofs.YtekoaheiapddiaaGreat.Dz
open Go.RowKit
structure Ob (I:World→Prop) (ft:Nat→Prop) (W:World) : Prop where
 it : I W
 lt : ∀ k,ft k→k<W.heap.size
 keep : ∀ V,(∀ k,ft k→V.heap[k]?=W.heap[k]?)→I V
structure An (I:World→Prop) (ft:Nat→Prop) (W:World) (F0:Nat→Prop) (L:List (Nat×Obj)) (V:World) : Prop where
 ob : Ob I ft V
 chg : Chg F0 ft W V
 box : ∀ x∈L,V.heap[x.1]?=some x.2∧W.heap.size≤x.1∧¬ ft x.1
section
variable {I I' J : World→Prop} {ft ft' gt F0 : Nat→Prop} {W V V' : World} {L : List (Nat×Obj)}
theorem Ob.kept (h:Ob I ft W) (hk:∀ k,ft k→V.heap[k]?=W.heap[k]?) : Ob I ft V:=by
 refine⟨h.keep V hk,fun k h1=>?_,fun U hU=>h.keep U fun k h1=>(hU k h1).trans (hk k h1)⟩
 have h2:=hk k h1
 rw [Array.getElem?_eq_getElem (h.lt k h1)] at h2
 exact (Array.getElem?_eq_some_iff.1 h2).1
theorem Ob.below (h:Ob I ft W) (hb:Below W.heap.size W V) : Ob I ft V:=h.kept fun k hk=>hb.block k (h.lt k hk)
theorem Ob.chg {F F' : Nat→Prop} (h:Ob I ft W) (hc:Chg F F' W V) (hd:∀ k,ft k→¬ F k) : Ob I ft V:=h.kept fun k hk=>hc.block k (h.lt k hk) (hd k hk)
theorem An.start (h:Ob I ft W) : An I ft W ft [] W:=⟨h,Chg.refl _ _,by simp⟩
theorem An.step (h:An I ft W F0 L V) (h1:Ob I' ft' V') (h2:Chg ft ft' V V') : An I' ft' W F0 L V':=
 ⟨h1,h.chg.trans h2,fun x hx=>⟨(h2.block _ (lt_of (h.box x hx).1) (h.box x hx).2.2).trans (h.box x hx).1,(h.box x hx).2.1,fun h3=>by
   rcases h2.new _ h3 with h4 | h4
   · exact (h.box x hx).2.2 h4
   · have:=lt_of (h.box x hx).1; omega⟩⟩
theorem An.call (h:An I ft W F0 L V) (hb:Below V.heap.size V V') : An I ft W F0 L V':=h.step (h.ob.below hb) (Chg.of_below hb)
theorem An.alloc (h:An I ft W F0 L V) (o:Obj) : An I ft W F0 ((V.heap.size,o) :: L) (V.alloc o):=by
 have h1:=h.call ((Below.refl _ _).alloc (Nat.le_refl _) o)
 refine⟨h1.ob,h1.chg,fun x hx=>?_⟩
 rcases List.mem_cons.1 hx with rfl | hx
 ·exact⟨heap_alloc_new _ _,h.chg.size,fun hk=>by have:=h.ob.lt _ hk; simp at this⟩
 ·exact h1.box x hx
theorem An.sub {L' : List (Nat×Obj)} (h:An I ft W F0 L V) (hs:∀ x∈L',x∈L) : An I ft W F0 L' V:=⟨h.ob,h.chg,fun x hx=>h.box x (hs x hx)⟩
theorem An.put {q : Nat} {o o' : Obj} (h:An I ft W F0 ((q,o) :: L) V) (hc:Chg (fun k=>k=q) (fun k=>k=q) V V') (ho:V'.heap[q]?=some o') (hL:∀ x∈L,x.1≠q) : An I ft W F0 ((q,o') :: L) V':=by
 obtain⟨_,h2,h3⟩:=h.box (q,o) (by simp)
 have hk : ∀ k,k<V.heap.size→k≠q→V'.heap[k]?=V.heap[k]?:=fun k h1 h2=>hc.block k h1 h2
 refine⟨h.ob.kept fun k hk'=>hk k (h.ob.lt k hk') fun e=>h3 (by rw [← e]; exact hk'),⟨hc.os.trans h.chg.os,hc.tape.trans h.chg.tape,hc.output.trans h.chg.output,Nat.le_trans h.chg.size hc.size,fun k h1 h4=>(hk k (Nat.lt_of_lt_of_le h1 h.chg.size) (by simp only at h2; omega)).trans (h.chg.block k h1 h4),h.chg.new⟩,fun x hx=>?_⟩
 rcases List.mem_cons.1 hx with rfl | hx
 ·exact⟨ho,h2,h3⟩
 ·have h4:=h.box x (by simp [hx])
  exact⟨(hk _ (lt_of h4.1) (hL x hx)).trans h4.1,h4.2⟩
theorem An.at (h:An I ft W F0 L V) {q : Nat} {o : Obj} (hm:(q,o)∈L) : V.heap[q]?=some o:=(h.box (q,o) hm).1
theorem An.ne (h:An I ft W F0 L V) : ∀ x∈L,x.1≠V.heap.size:=fun x hx=>Nat.ne_of_lt (lt_of (h.box x hx).1)
end
end Go.Proofs.YtekoaheiapddiaaGreat.Dz
end
section
namespace Go.Proofs.YtekoaheiapddiaaGreat.Dz
open Go.RowKit
def kcells (x:AskP×ReplyP) : List Value:=(askCells x.1).toList ++ (replyCells x.2).toList
theorem kcells_len (x:AskP×ReplyP) : (kcells x).length=18:=rfl
def cellsK : KL→List Value
 | []=>[]
 | x :: r=>kcells x ++ cellsK r
theorem cellsK_len (K:KL) : (cellsK K).length=K.length*18:=by
 induction K with
 | nil=>rfl
 | cons x r ih=>simp only [cellsK,List.length_append,kcells_len,List.length_cons,ih]; omega
theorem cellsK_app (K M : KL) : cellsK (K ++ M)=cellsK K ++ cellsK M:=by
 induction K with
 | nil=>rfl
 | cons x r ih=>simp [cellsK,ih]
theorem cellsK_get {K : KL} {i : Nat} {x : AskP×ReplyP} (h:K[i]?=some x) {j : Nat} (hj:j<18) : (cellsK K)[i*18+j]?=(kcells x)[j]?:=by
 induction K generalizing i with
 | nil=>simp at h
 | cons y r ih=>
  cases i with
  | zero=>
   simp only [List.getElem?_cons_zero,Option.some.injEq] at h
   subst h
   rw [Nat.zero_mul,Nat.zero_add]
   exact List.getElem?_append_left (by rw [kcells_len]; exact hj)
  | succ i=>
   simp only [List.getElem?_cons_succ] at h
   rw [cellsK,List.getElem?_append_right (by rw [kcells_len]; omega),kcells_len,show (i+1)*18+j-18=i*18+j by omega]
   exact ih h
def tyAt (W:World) (k:Nat) : Option TypeId:=match W.heap[k]? with
 | some (.cells _ t _)=>some t
 | _=>none
theorem tyAt_of {W : World} {k : Nat} {cs : Array Value} {t : TypeId} {x : Nat×Nat} (h:W.heap[k]?=some (.cells cs t x)) : tyAt W k=some t:=by unfold tyAt; rw [h]
def ftR (e:Nat) (v:Value) (b:Nat) (cv sv av : Value) (k:Nat) : Prop:=Rk.ft e v k∨k=b∨cv.ownBlock=some k∨sv.ownBlock=some k∨av.ownBlock=some k
def cellsR (e:Nat) (name:Nm) (cv sv av : Value) (n:Nat) : Array Value:=#[.pointer (some ⟨e,0,none⟩),.string (str name),cv,sv,av,.int .u64 (n:Nat)]
structure RAt (p:Pd) (c:Cl) (name:Nm) (e:Nat) (v:Value) (b:Nat) (cv sv av : Value) (n:Nat) (W:World) : Prop where
 rk : Rk p e v 0 W
 cell : W.heap[b]?=some (.cells (cellsR e name cv sv av n) 43 (0,0))
 cache : W.ownsRow 0 136 18 cv c.known.length (cellsK c.known)
 scr : Of 0 9 (c.script.map encS) sv W
 ask : OwnS 0 c.asked av W
 ap : ∀ k,sv.ownBlock=some k→av.ownBlock≠some k
section
variable {p : Pd} {c : Cl} {name : Nm} {e : Nat} {v : Value} {b : Nat} {cv sv av : Value} {n : Nat} {W : World}
theorem row_block {B t s m : Nat} {xs : List Value} (h:W.ownsRow B t s v m xs) {k : Nat} (hk:v.ownBlock=some k) : ∃ cs,W.heap[k]?=some (.cells cs t (0,0)):=by
 rcases h.2 with ⟨rfl,_⟩ | ⟨g,cap,cur,rfl,_,hg,_⟩
 ·cases hk
 ·cases hk; exact⟨_,hg⟩
theorem row_keep {B t s m : Nat} {xs : List Value} {W' : World} (h:W.ownsRow B t s v m xs) (hb:∀ k,v.ownBlock=some k→W'.heap[k]?=W.heap[k]?) : W'.ownsRow B t s v m xs:=by
 refine⟨h.1,?_⟩
 rcases h.2 with h0 | ⟨g,cap,cur,rfl,hbg,hg,rest⟩
 ·exact Or.inl h0
 ·exact Or.inr ⟨g,cap,cur,rfl,hbg,(hb g rfl).trans hg,rest⟩
theorem row_form {B t s m : Nat} {xs : List Value} (h:W.ownsRow B t s v m xs) : ∃ a c,v=.slice a m c:=by
 rcases h.2 with ⟨rfl,rfl⟩ | ⟨g,cap,cur,rfl,_⟩
 ·exact⟨_,_,rfl⟩
 ·exact⟨_,_,rfl⟩
theorem RAt.kept {W' : World} (h:RAt p c name e v b cv sv av n W) (hk:∀ k,ftR e v b cv sv av k→W'.heap[k]?=W.heap[k]?) : RAt p c name e v b cv sv av n W':=
 ⟨h.rk.kept (hk _ (Or.inl (Or.inl rfl))) (fun k h1=>hk k (Or.inl (Or.inr h1))),(hk _ (Or.inr (Or.inl rfl))).trans h.cell,row_keep h.cache fun k h1=>hk k (Or.inr (Or.inr (Or.inl h1))),
   h.scr.keep fun k h1=>hk k (Or.inr (Or.inr (Or.inr (Or.inl h1)))),own_keep h.ask fun k h1=>hk k (Or.inr (Or.inr (Or.inr (Or.inr h1)))),h.ap⟩
theorem RAt.lt (h:RAt p c name e v b cv sv av n W) {k : Nat} (hk:ftR e v b cv sv av k) : k<W.heap.size:=by
 rcases hk with (rfl | hk) | rfl | hk | hk | hk
 ·exact lt_of h.rk.cell
 ·exact (h.rk.row.lt k hk).2
 ·exact lt_of h.cell
 ·exact (h.cache.lt k hk).2
 ·exact (h.scr.lt hk).2
 ·exact (h.ask.lt hk).2
theorem RAt.ob (h:RAt p c name e v b cv sv av n W) : Ob (RAt p c name e v b cv sv av n) (ftR e v b cv sv av) W:=⟨h,fun _ hk=>h.lt hk,fun _ hV=>h.kept hV⟩
theorem RAt.ty (h:RAt p c name e v b cv sv av n W) : (∀ k,Rk.ft e v k→tyAt W k=some 108∨tyAt W k=some 258)∧tyAt W b=some 43∧(∀ k,cv.ownBlock=some k→tyAt W k=some 136)∧(∀ k,sv.ownBlock=some k→tyAt W k=some 9)∧(∀ k,av.ownBlock=some k→tyAt W k=some 9):=by
 refine⟨fun k hk=>?_,tyAt_of h.cell,fun k hk=>?_,fun k hk=>?_,fun k hk=>?_⟩
 ·rcases hk with rfl | hk
  ·exact Or.inl (tyAt_of h.rk.cell)
  ·obtain⟨cs,h1⟩:=row_block h.rk.row hk; exact Or.inr (tyAt_of h1)
 ·obtain⟨cs,h1⟩:=row_block h.cache hk; exact tyAt_of h1
 ·obtain⟨cs,h1⟩:=h.scr.cells hk; exact tyAt_of h1
 ·obtain⟨cs,h1⟩:=row_block h.ask hk; exact tyAt_of h1
theorem ty_ne {o : Option TypeId} {s t : TypeId} (h1:o=some s) (h2:o=some t) (h:s≠t) : False:=h (Option.some.inj (h1.symm.trans h2))
theorem RAt.disk {W' : World} {p' : Pd} {v' : Value} (h:RAt p c name e v b cv sv av n W) (h1:Rk p' e v' 0 W') (h2:Chg (Rk.ft e v) (Rk.ft e v') W W') :
  RAt p' c name e v' b cv sv av n W'∧Chg (ftR e v b cv sv av) (ftR e v' b cv sv av) W W':=by
 obtain⟨t1,t2,t3,t4,t5⟩:=h.ty
 have hk : ∀ k,ftR e v b cv sv av k→¬ Rk.ft e v k→W'.heap[k]?=W.heap[k]?:=fun k hk hn=>h2.block k (h.lt hk) hn
 refine⟨⟨h1,(hk b (Or.inr (Or.inl rfl)) fun hf=>?_).trans h.cell,row_keep h.cache fun k h3=>hk k (Or.inr (Or.inr (Or.inl h3))) fun hf=>?_,h.scr.keep fun k h3=>hk k (Or.inr (Or.inr (Or.inr (Or.inl h3)))) fun hf=>?_,
   own_keep h.ask fun k h3=>hk k (Or.inr (Or.inr (Or.inr (Or.inr h3)))) fun hf=>?_,h.ap⟩,⟨h2.os,h2.tape,h2.output,h2.size,fun k hl hn=>h2.block k hl fun hf=>hn (Or.inl hf),fun k hk=>?_⟩⟩
 ·rcases t1 b hf with h4 | h4 <;> exact ty_ne h4 t2 (by decide)
 ·rcases t1 k hf with h4 | h4 <;> exact ty_ne h4 (t3 k h3) (by decide)
 ·rcases t1 k hf with h4 | h4 <;> exact ty_ne h4 (t4 k h3) (by decide)
 ·rcases t1 k hf with h4 | h4 <;> exact ty_ne h4 (t5 k h3) (by decide)
 ·rcases hk with hk | hk
  ·exact (h2.new k hk).imp Or.inl id
  ·exact Or.inl (Or.inr hk)
theorem RAt.newScript {W1 : World} {sv' : Value} {s' : List Nm} (h:RAt p c name e v b cv sv av n W) (hc:Chg (fun k=>sv.ownBlock=some k) (fun k=>sv'.ownBlock=some k) W W1) (ho:Of 0 9 (s'.map encS) sv' W1) :
  RAt p { c with script:=s' } name e v b cv sv' av n (W1.setCell ⟨b,3,none⟩ sv')∧Chg (ftR e v b cv sv av) (ftR e v b cv sv' av) W (W1.setCell ⟨b,3,none⟩ sv'):=by
 obtain⟨t1,t2,t3,t4,t5⟩:=h.ty
 have hb : ∀ k,k≠b→(W1.setCell ⟨b,3,none⟩ sv').heap[k]?=W1.heap[k]?:=fun k hk=>heap_setCell_other _ _ _ _ (by simpa using hk)
 have old : ∀ k,k<W.heap.size→(sv.ownBlock=some k→False)→W1.heap[k]?=W.heap[k]?:=fun k hk hn=>hc.block k hk hn
 have hbl:=lt_of h.cell
 have hbo : W1.heap[b]?=W.heap[b]?:=old b hbl fun e=>ty_ne (t4 b e) t2 (by decide)
 have both : ∀ k,k<W.heap.size→k≠b→(sv.ownBlock=some k→False)→(W1.setCell ⟨b,3,none⟩ sv').heap[k]?=W.heap[k]?:=fun k h1 h2 h3=>(hb k h2).trans (old k h1 h3)
 have hsv : ∀ k,sv'.ownBlock=some k→k≠b∧av.ownBlock≠some k:=fun k hk=>by
  rcases hc.new k hk with h1 | h1
  ·exact⟨fun e=>ty_ne (t4 k h1) (e ▸ t2) (by decide),h.ap k h1⟩
  ·exact⟨fun e=>by omega,fun e=>by have:=(h.ask.lt e).2; omega⟩
 have D : ∀ k,Rk.ft e v k→(W1.setCell ⟨b,3,none⟩ sv').heap[k]?=W.heap[k]?:=fun k hk=>both k (h.lt (Or.inl hk)) (fun e=>by rcases t1 k hk with h4 | h4 <;> exact ty_ne h4 (e ▸ t2) (by decide)) (fun e=>by rcases t1 k hk with h4 | h4 <;> exact ty_ne h4 (t4 k e) (by decide))
 refine⟨⟨h.rk.kept (D _ (Or.inl rfl)) fun k h1=>D k (Or.inr h1),?_,row_keep h.cache fun k hk=>both k (h.cache.lt k hk).2 (fun e=>ty_ne (t3 k hk) (e ▸ t2) (by decide)) (fun e=>ty_ne (t3 k hk) (t4 k e) (by decide)),ho.keep fun k hk=>hb k (hsv k hk).1,
   own_keep h.ask fun k hk=>both k (h.ask.lt hk).2 (fun e=>ty_ne (t5 k hk) (e ▸ t2) (by decide)) (fun e=>h.ap k e hk),fun k hk=>(hsv k hk).2⟩,?_⟩
 ·have:=heap_setCell_same W1 b 3 _ _ sv' (hbo.trans h.cell)
  simpa [cellsR] using this
 ·refine⟨hc.os,hc.tape,hc.output,by simpa [World.setCell] using hc.size,fun k hk hn=>both k hk (fun e=>hn (Or.inr (Or.inl e))) (fun e=>hn (Or.inr (Or.inr (Or.inr (Or.inl e))))),fun k hk=>?_⟩
  rcases hk with hk | hk | hk | hk | hk
  ·exact Or.inl (Or.inl hk)
  ·exact Or.inl (Or.inr (Or.inl hk))
  ·exact Or.inl (Or.inr (Or.inr (Or.inl hk)))
  ·exact (hc.new k hk).imp (fun e=>Or.inr (Or.inr (Or.inr (Or.inl e)))) id
  ·exact Or.inl (Or.inr (Or.inr (Or.inr (Or.inr hk))))
theorem RAt.newAsked {W1 : World} {av' : Value} {s' : List Nm} (h:RAt p c name e v b cv sv av n W) (hc:Chg (fun k=>av.ownBlock=some k) (fun k=>av'.ownBlock=some k) W W1) (ho:OwnS 0 s' av' W1) :
  RAt p { c with asked:=s' } name e v b cv sv av' n (W1.setCell ⟨b,4,none⟩ av')∧Chg (ftR e v b cv sv av) (ftR e v b cv sv av') W (W1.setCell ⟨b,4,none⟩ av'):=by
 obtain⟨t1,t2,t3,t4,t5⟩:=h.ty
 have hb : ∀ k,k≠b→(W1.setCell ⟨b,4,none⟩ av').heap[k]?=W1.heap[k]?:=fun k hk=>heap_setCell_other _ _ _ _ (by simpa using hk)
 have old : ∀ k,k<W.heap.size→(av.ownBlock=some k→False)→W1.heap[k]?=W.heap[k]?:=fun k hk hn=>hc.block k hk hn
 have hbl:=lt_of h.cell
 have hbo : W1.heap[b]?=W.heap[b]?:=old b hbl fun e=>ty_ne (t5 b e) t2 (by decide)
 have both : ∀ k,k<W.heap.size→k≠b→(av.ownBlock=some k→False)→(W1.setCell ⟨b,4,none⟩ av').heap[k]?=W.heap[k]?:=fun k h1 h2 h3=>(hb k h2).trans (old k h1 h3)
 have hsv : ∀ k,av'.ownBlock=some k→k≠b∧sv.ownBlock≠some k:=fun k hk=>by
  rcases hc.new k hk with h1 | h1
  ·exact⟨fun e=>ty_ne (t5 k h1) (e ▸ t2) (by decide),fun e=>h.ap k e h1⟩
  ·exact⟨fun e=>by omega,fun e=>by have:=(h.scr.lt e).2; omega⟩
 have D : ∀ k,Rk.ft e v k→(W1.setCell ⟨b,4,none⟩ av').heap[k]?=W.heap[k]?:=fun k hk=>both k (h.lt (Or.inl hk)) (fun e=>by rcases t1 k hk with h4 | h4 <;> exact ty_ne h4 (e ▸ t2) (by decide)) (fun e=>by rcases t1 k hk with h4 | h4 <;> exact ty_ne h4 (t5 k e) (by decide))
 refine⟨⟨h.rk.kept (D _ (Or.inl rfl)) fun k h1=>D k (Or.inr h1),?_,row_keep h.cache fun k hk=>both k (h.cache.lt k hk).2 (fun e=>ty_ne (t3 k hk) (e ▸ t2) (by decide)) (fun e=>ty_ne (t3 k hk) (t5 k e) (by decide)),
   h.scr.keep fun k hk=>both k (h.scr.lt hk).2 (fun e=>ty_ne (t4 k hk) (e ▸ t2) (by decide)) (fun e=>h.ap k hk e),own_keep ho fun k hk=>hb k (hsv k hk).1,fun k hk e=>(hsv k e).2 hk⟩,?_⟩
 ·have:=heap_setCell_same W1 b 4 _ _ av' (hbo.trans h.cell)
  simpa [cellsR] using this
 ·refine⟨hc.os,hc.tape,hc.output,by simpa [World.setCell] using hc.size,fun k hk hn=>both k hk (fun e=>hn (Or.inr (Or.inl e))) (fun e=>hn (Or.inr (Or.inr (Or.inr (Or.inr e))))),fun k hk=>?_⟩
  rcases hk with hk | hk | hk | hk | hk
  ·exact Or.inl (Or.inl hk)
  ·exact Or.inl (Or.inr (Or.inl hk))
  ·exact Or.inl (Or.inr (Or.inr (Or.inl hk)))
  ·exact Or.inl (Or.inr (Or.inr (Or.inr (Or.inl hk))))
  ·exact (hc.new k hk).imp (fun e=>Or.inr (Or.inr (Or.inr (Or.inr e)))) id
theorem RAt.newCache {W1 : World} {cv' : Value} {K' : KL} (h:RAt p c name e v b cv sv av n W) (hc:Chg (fun k=>cv.ownBlock=some k) (fun k=>cv'.ownBlock=some k) W W1) (ho:W1.ownsRow 0 136 18 cv' K'.length (cellsK K')) :
  RAt p { c with known:=K' } name e v b cv' sv av n (W1.setCell ⟨b,2,none⟩ cv')∧Chg (ftR e v b cv sv av) (ftR e v b cv' sv av) W (W1.setCell ⟨b,2,none⟩ cv'):=by
 obtain⟨t1,t2,t3,t4,t5⟩:=h.ty
 have hb : ∀ k,k≠b→(W1.setCell ⟨b,2,none⟩ cv').heap[k]?=W1.heap[k]?:=fun k hk=>heap_setCell_other _ _ _ _ (by simpa using hk)
 have old : ∀ k,k<W.heap.size→(cv.ownBlock=some k→False)→W1.heap[k]?=W.heap[k]?:=fun k hk hn=>hc.block k hk hn
 have hbl:=lt_of h.cell
 have hbo : W1.heap[b]?=W.heap[b]?:=old b hbl fun e=>ty_ne (t3 b e) t2 (by decide)
 have both : ∀ k,k<W.heap.size→k≠b→(cv.ownBlock=some k→False)→(W1.setCell ⟨b,2,none⟩ cv').heap[k]?=W.heap[k]?:=fun k h1 h2 h3=>(hb k h2).trans (old k h1 h3)
 have hsv : ∀ k,cv'.ownBlock=some k→k≠b:=fun k hk=>by
  rcases hc.new k hk with h1 | h1
  ·exact fun e=>ty_ne (t3 k h1) (e ▸ t2) (by decide)
  ·exact fun e=>by omega
 have D : ∀ k,Rk.ft e v k→(W1.setCell ⟨b,2,none⟩ cv').heap[k]?=W.heap[k]?:=fun k hk=>both k (h.lt (Or.inl hk)) (fun e=>by rcases t1 k hk with h4 | h4 <;> exact ty_ne h4 (e ▸ t2) (by decide)) (fun e=>by rcases t1 k hk with h4 | h4 <;> exact ty_ne h4 (t3 k e) (by decide))
 refine⟨⟨h.rk.kept (D _ (Or.inl rfl)) fun k h1=>D k (Or.inr h1),?_,row_keep ho fun k hk=>hb k (hsv k hk),
   h.scr.keep fun k hk=>both k (h.scr.lt hk).2 (fun e=>ty_ne (t4 k hk) (e ▸ t2) (by decide)) (fun e=>ty_ne (t3 k e) (t4 k hk) (by decide)),own_keep h.ask fun k hk=>both k (h.ask.lt hk).2 (fun e=>ty_ne (t5 k hk) (e ▸ t2) (by decide)) (fun e=>ty_ne (t3 k e) (t5 k hk) (by decide)),h.ap⟩,?_⟩
 ·have:=heap_setCell_same W1 b 2 _ _ cv' (hbo.trans h.cell)
  simpa [cellsR] using this
 ·refine⟨hc.os,hc.tape,hc.output,by simpa [World.setCell] using hc.size,fun k hk hn=>both k hk (fun e=>hn (Or.inr (Or.inl e))) (fun e=>hn (Or.inr (Or.inr (Or.inl e)))),fun k hk=>?_⟩
  rcases hk with hk | hk | hk | hk | hk
  ·exact Or.inl (Or.inl hk)
  ·exact Or.inl (Or.inr (Or.inl hk))
  ·exact (hc.new k hk).imp (fun e=>Or.inr (Or.inr (Or.inl e))) id
  ·exact Or.inl (Or.inr (Or.inr (Or.inr (Or.inl hk))))
  ·exact Or.inl (Or.inr (Or.inr (Or.inr (Or.inr hk))))
theorem RAt.inCache {W' : World} {K' : KL} (h:RAt p c name e v b cv sv av n W) (hc:Chg (fun k=>cv.ownBlock=some k) (fun k=>cv.ownBlock=some k) W W') (ho:W'.ownsRow 0 136 18 cv K'.length (cellsK K')) :
  RAt p { c with known:=K' } name e v b cv sv av n W'∧Chg (ftR e v b cv sv av) (ftR e v b cv sv av) W W':=by
 obtain⟨t1,t2,t3,t4,t5⟩:=h.ty
 have old : ∀ k,k<W.heap.size→(cv.ownBlock=some k→False)→W'.heap[k]?=W.heap[k]?:=fun k hk hn=>hc.block k hk hn
 have D : ∀ k,Rk.ft e v k→W'.heap[k]?=W.heap[k]?:=fun k hk=>old k (h.lt (Or.inl hk)) (fun e=>by rcases t1 k hk with h4 | h4 <;> exact ty_ne h4 (t3 k e) (by decide))
 exact⟨⟨h.rk.kept (D _ (Or.inl rfl)) fun k h1=>D k (Or.inr h1),(old b (lt_of h.cell) fun e=>ty_ne (t3 b e) t2 (by decide)).trans h.cell,ho,h.scr.keep fun k hk=>old k (h.scr.lt hk).2 (fun e=>ty_ne (t3 k e) (t4 k hk) (by decide)),
   own_keep h.ask fun k hk=>old k (h.ask.lt hk).2 (fun e=>ty_ne (t3 k e) (t5 k hk) (by decide)),h.ap⟩,⟨hc.os,hc.tape,hc.output,hc.size,fun k hk hn=>hc.block k hk fun e=>hn (Or.inr (Or.inr (Or.inl e))),fun k hk=>Or.inl hk⟩⟩
theorem RAt.newNext (h:RAt p c name e v b cv sv av n W) (m:Nat) : RAt p c name e v b cv sv av m (W.setCell ⟨b,5,none⟩ (.int .u64 (m:Nat)))∧Chg (ftR e v b cv sv av) (ftR e v b cv sv av) W (W.setCell ⟨b,5,none⟩ (.int .u64 (m:Nat))):=by
 obtain⟨t1,t2,t3,t4,t5⟩:=h.ty
 have hb : ∀ k,k≠b→(W.setCell ⟨b,5,none⟩ (.int .u64 (m:Nat))).heap[k]?=W.heap[k]?:=fun k hk=>heap_setCell_other _ _ _ _ (by simpa using hk)
 have D : ∀ k,Rk.ft e v k→(W.setCell ⟨b,5,none⟩ (.int .u64 (m:Nat))).heap[k]?=W.heap[k]?:=fun k hk=>hb k (fun e=>by rcases t1 k hk with h4 | h4 <;> exact ty_ne h4 (e ▸ t2) (by decide))
 refine⟨⟨h.rk.kept (D _ (Or.inl rfl)) fun k h1=>D k (Or.inr h1),?_,row_keep h.cache fun k hk=>hb k (fun e=>ty_ne (t3 k hk) (e ▸ t2) (by decide)),h.scr.keep fun k hk=>hb k (fun e=>ty_ne (t4 k hk) (e ▸ t2) (by decide)),
   own_keep h.ask fun k hk=>hb k (fun e=>ty_ne (t5 k hk) (e ▸ t2) (by decide)),h.ap⟩,⟨rfl,rfl,rfl,by simp [World.setCell],fun k _ hn=>hb k fun e=>hn (Or.inr (Or.inl e)),fun k hk=>Or.inl hk⟩⟩
 have:=heap_setCell_same W b 5 _ _ (.int .u64 (m:Nat)) h.cell
 simpa [cellsR] using this
theorem RAt.reads (h:RAt p c name e v b cv sv av n W) : (W.cell? ⟨b,0,none⟩=some (.pointer (some ⟨e,0,none⟩))∧W.cell? ⟨b,1,none⟩=some (.string (str name))∧W.cell? ⟨b,2,none⟩=some cv∧W.cell? ⟨b,3,none⟩=some sv∧W.cell? ⟨b,4,none⟩=some av∧W.cell? ⟨b,5,none⟩=some (.int .u64 (n:Nat))) ∧
  ∀ j,W.frozen? ⟨b,j,none⟩=false:=
 ⟨⟨cell_of h.cell 0,cell_of h.cell 1,cell_of h.cell 2,cell_of h.cell 3,cell_of h.cell 4,cell_of h.cell 5⟩,fun j=>free_of h.cell j⟩
end
end Go.Proofs.YtekoaheiapddiaaGreat.Dz
end
section
namespace Go.Proofs.YtekoaheiapddiaaGreat.Dz
open Go.RowKit
theorem set_parts (l:List Value) (i:Nat) (u:Value) (r:List Value) (h:i<l.length) : (l.set i u).take (i+1) ++ r ++ (l.set i u).drop (i+1+r.length)=l.take i ++ (u :: r) ++ l.drop (i+(r.length+1)):=by
 have h1 : (l.set i u).take (i+1)=l.take i ++ [u]:=by
  rw [List.take_add_one,List.take_set_of_le (Nat.le_refl _),List.getElem?_set_self h]; rfl
 rw [h1,List.drop_set_of_lt (by omega),List.append_assoc,List.append_assoc,show i+1+r.length=i+(r.length+1) by omega]
 simp
theorem setCells_is {g : Nat} {e : TypeId} : ∀ (us:List Value) (W:World) (o:Nat) (cur:Array Value),W.heap[g]?=some (.cells cur e (0,0))→o+us.length≤cur.size →
  (W.setCells g o us).heap[g]?=some (.cells (cur.toList.take o ++ us ++ cur.toList.drop (o+us.length)).toArray e (0,0))∧Chg (fun b=>b=g) (fun b=>b=g) W (W.setCells g o us):=by
 intro us
 induction us with
 | nil=>
  intro W o cur h _
  refine⟨?_,Chg.refl _ _⟩
  show W.heap[g]?=_
  simp [h]
 | cons u r ih=>
  intro W o cur h hl
  simp only [List.length_cons] at hl
  have h1:=heap_setCell_same W g o _ _ u h
  obtain⟨q1,q2⟩:=ih (W.setCell ⟨g,o,none⟩ u) (o+1) _ h1 (by simpa using (by omega : o+1+r.length≤cur.size))
  refine⟨?_,(chg_set (W:=W) (q:=g) (Chg.refl (fun b=>b=g) W) (Or.inl rfl) o u).trans q2⟩
  show ((W.setCell ⟨g,o,none⟩ u).setCells g (o+1) r).heap[g]?=_
  rw [q1]
  congr 2
  have:=set_parts cur.toList o u r (by simpa using (by omega : o<cur.size))
  simp only [List.length_cons]
  rw [Array.toList_setIfInBounds,this]
theorem row_put {q t : KL} {a : AskP} {r r' : ReplyP} {g c : Nat} {W : World} (h:W.ownsRow 0 136 18 (.slice (some ⟨g,0,none⟩) (q ++ (a,r) :: t).length c) (q ++ (a,r) :: t).length (cellsK (q ++ (a,r) :: t))) :
  (W.setCells g (q.length*18) (kcells (a,r'))).ownsRow 0 136 18 (.slice (some ⟨g,0,none⟩) (q ++ (a,r) :: t).length c) (q ++ (a,r') :: t).length (cellsK (q ++ (a,r') :: t))∧Chg (fun b=>b=g) (fun b=>b=g) W (W.setCells g (q.length*18) (kcells (a,r'))):=by
 obtain⟨h0,h⟩:=h
 rcases h with ⟨h,_⟩ | ⟨g',cap,cur,hv,hb,hg,hn,hm,hs,ht⟩
 ·cases h
 ·cases hv
  have hsz : (q ++ (a,r) :: t).length*18≤cur.size:=by rw [hs]; exact Nat.mul_le_mul_right _ hn
  have hlen : (q ++ (a,r) :: t).length=q.length+(t.length+1):=by simp
  obtain⟨q1,q2⟩:=setCells_is (kcells (a,r')) W (q.length*18) cur hg (by rw [kcells_len]; rw [hlen] at hsz; omega)
  refine⟨⟨?_,Or.inr ⟨g,c,_,by simp,hb,q1,by rw [hlen] at hn; simpa using hn,hm,?_,?_⟩⟩,q2⟩
  ·rw [cellsK_len]
  ·rw [kcells_len]
   simp only [List.size_toArray,List.length_append,List.length_take,List.length_drop,Array.length_toList,kcells_len]
   rw [hlen] at hsz
   omega
  ·have hcur : cur.toList=cellsK (q ++ (a,r) :: t) ++ cur.toList.drop ((q ++ (a,r) :: t).length*18):=by rw [← ht,List.take_append_drop]
   have hq:=cellsK_len q
   have ht':=cellsK_len t
   simp only [kcells_len]
   rw [hcur,cellsK_app,cellsK_app]
   simp only [cellsK]
   generalize cur.toList.drop ((q ++ (a,r) :: t).length*18)=z
   have e1 : (cellsK q ++ (kcells (a,r) ++ cellsK t) ++ z).take (q.length*18)=cellsK q:=by
    rw [← hq,List.append_assoc,List.take_left]
   have e2 : (cellsK q ++ (kcells (a,r) ++ cellsK t) ++ z).drop (q.length*18+18)=cellsK t ++ z:=by
    rw [show q.length*18+18=(cellsK q ++ kcells (a,r)).length by rw [List.length_append,hq,kcells_len],show cellsK q ++ (kcells (a,r) ++ cellsK t) ++ z=(cellsK q ++ kcells (a,r)) ++ (cellsK t ++ z) by simp]
    exact List.drop_left
   rw [e1,e2]
   simp only [List.append_assoc]
   have e3 : (q ++ (a,r') :: t).length*18=(cellsK q ++ (kcells (a,r') ++ cellsK t)).length:=by
    rw [List.length_append,List.length_append,List.length_append,hq,ht',kcells_len,List.length_cons]; omega
   rw [e3,show cellsK q ++ (kcells (a,r') ++ (cellsK t ++ z))=(cellsK q ++ (kcells (a,r') ++ cellsK t)) ++ z by simp,List.take_left]
theorem eq_ask7 (i1 i2 a1 a2 b1 b2 c1 c2 d1 d2 k1 k2 : Int) (l1 l2 : Nm) (w:World) :
  (binOp .eql 128 (.agg #[.int .u64 i1,.string (str l1),.int .u64 a1,.int .u64 b1,.int .u64 c1,.int .u64 d1,.int .i64 k1]) (.agg #[.int .u64 i2,.string (str l2),.int .u64 a2,.int .u64 b2,.int .u64 c2,.int .u64 d2,.int .i64 k2])).run Tryz.prog w =
   .ok (.bool (i1 == i2 && (decide (l1=l2) && ((a1 == a2 && (b1 == b2 && (c1 == c2 && d1 == d2))) && k1 == k2)))) w:=by
 have hs : (str l1).toList=(str l2).toList ↔ l1=l2:=⟨fun h=>by have e:=str_eq l1 l2; rw [h] at e; simpa using e.symm,fun h=>by rw [h]⟩
 have u3:=Tryz.underlying41
 have a3':=Tryz.isAgg41
 have z3:=Tryz.sizeOf41
 have u4:=Tryz.underlying3
 have a4':=Tryz.isAgg3
 have z4:=Tryz.sizeOf3
 have u9:=Tryz.underlying9
 have a9:=Tryz.isAgg9
 have z9:=Tryz.sizeOf9
 have uW:=Tryz.underlying61
 have aW:=Tryz.isAgg61
 have zW:=Tryz.sizeOf61
 have hS : Tryz.prog.underlying 128=some (.struct (Tryz.prog.fieldsOf 128)):=by kernel_rfl
 have hp : Tryz.prog.stoodInHeld 128=false:=by kernel_rfl
 have hSW : Tryz.prog.underlying 61=some (.struct (Tryz.prog.fieldsOf 61)):=by kernel_rfl
 have hpW : Tryz.prog.stoodInHeld 61=false:=by kernel_rfl
 rw [run_eql_struct,show (10000:Nat)=9999+1 from rfl,run_equalIn_agg w 9999 128 _ _ hS hp]
 simp only [Program.fieldsOf,Tryz.underlying128]
 go_simp
 by_cases h0 : i1=i2 <;> by_cases h1 : l1=l2 <;> by_cases h2 : a1=a2 <;> by_cases h3 : b1=b2 <;> by_cases h4 : c1=c2 <;> by_cases h5 : d1=d2 <;> by_cases h6 : k1=k2 <;> simp [h0,h1,h2,h3,h4,h5,h6]
theorem eq_ask {x y : AskP} (hx:x.Wf) (hy:y.Wf) (w:World) : (binOp .eql 128 (.agg (askCells x)) (.agg (askCells y))).run Tryz.prog w=.ok (.bool (decide (x=y))) w:=by
 unfold askCells
 rw [eq_ask7]
 congr 2
 by_cases h : x=y
 ·subst h; simp
 ·rw [decide_eq_false h]
  rw [Bool.eq_false_iff]
  intro hb
  ·simp only [Bool.and_eq_true,beq_iff_eq,decide_eq_true_eq] at hb
   obtain⟨h1,h2,⟨h3,h4,h5,h6⟩,h7⟩:=hb
   refine absurd (askV_inj hx hy ?_) h
   unfold askV
   rw [h1,h2,h3,h4,h5,h6,h7]
end Go.Proofs.YtekoaheiapddiaaGreat.Dz
end
section
namespace Go.Proofs.YtekoaheiapddiaaGreat.Dz
open Go.RowKit
abbrev kO (x:AskP×ReplyP) : Obj:=.cells (kcells x).toArray 136 (0,0)
theorem cells18 {W : World} {g o : Nat} {x : AskP×ReplyP} (h:∀ j,j<18→W.cell? ⟨g,o+j,none⟩=(kcells x)[j]?) :
  (W.cell? ⟨g,o,none⟩=some (.int .u64 x.1.id)∧W.cell? ⟨g,o+1,none⟩=some (.string (str x.1.addr))∧W.cell? ⟨g,o+2,none⟩=some (.int .u64 (l3 x.1.slot : Nat))∧W.cell? ⟨g,o+3,none⟩=some (.int .u64 (l2 x.1.slot : Nat))∧W.cell? ⟨g,o+4,none⟩=some (.int .u64 (l1 x.1.slot : Nat))∧W.cell? ⟨g,o+5,none⟩=some (.int .u64 (l0 x.1.slot : Nat))∧W.cell? ⟨g,o+6,none⟩=some (.int .i64 x.1.kind)) ∧
  (W.cell? ⟨g,o+7,none⟩=some (.int .u64 x.2.id)∧W.cell? ⟨g,o+8,none⟩=some (.int .u64 x.2.nonce)∧W.cell? ⟨g,o+9,none⟩=some (.int .u64 (l3 x.2.bal : Nat))∧W.cell? ⟨g,o+10,none⟩=some (.int .u64 (l2 x.2.bal : Nat))∧W.cell? ⟨g,o+11,none⟩=some (.int .u64 (l1 x.2.bal : Nat))∧W.cell? ⟨g,o+12,none⟩=some (.int .u64 (l0 x.2.bal : Nat))∧W.cell? ⟨g,o+13,none⟩=some (.string (str x.2.code))∧W.cell? ⟨g,o+14,none⟩=some (.int .u64 (l3 x.2.value : Nat))∧W.cell? ⟨g,o+15,none⟩=some (.int .u64 (l2 x.2.value : Nat))∧W.cell? ⟨g,o+16,none⟩=some (.int .u64 (l1 x.2.value : Nat))∧W.cell? ⟨g,o+17,none⟩=some (.int .u64 (l0 x.2.value : Nat))):=
 ⟨⟨h 0 (by omega),h 1 (by omega),h 2 (by omega),h 3 (by omega),h 4 (by omega),h 5 (by omega),h 6 (by omega)⟩,h 7 (by omega),h 8 (by omega),h 9 (by omega),h 10 (by omega),h 11 (by omega),h 12 (by omega),h 13 (by omega),h 14 (by omega),h 15 (by omega),h 16 (by omega),h 17 (by omega)⟩
theorem infoKnown : (Tryz.prog.info? 136).map (fun i=>(i.zero,i.size,i.bytes))=some (some (.agg (kcells (⟨0,[],0,0⟩,ReplyP.zero)).toArray),18,160):=by kernel_rfl
theorem bel_drewN (W:World) (n:Nat) : Below W.heap.size W (W.drewN n):=⟨rfl,rfl,rfl,Nat.le_refl _,fun _ _=>rfl⟩
theorem kcells_one (y:AskP×ReplyP) : ∀ u∈kcells y,u.oneCell'=true:=by
 intro u hu
 simp only [kcells,askCells,replyCells,List.mem_append,List.mem_cons,List.not_mem_nil,or_false] at hu
 rcases hu with (rfl | rfl | rfl | rfl | rfl | rfl | rfl) | (rfl | rfl | rfl | rfl | rfl | rfl | rfl | rfl | rfl | rfl | rfl) <;> rfl
theorem wp_append_known {o : Oper} {a : Act} {K : Act→World→Prop} {Q : Exit→Act→World→Prop} {W : World} (s x : Operand)
  (ho:o.op=.call { callee:=.builtin .append,args:=#[s,x],argTypes:=#[40,40] })
  (v:Value) (L:KL) (y:AskP×ReplyP) (hs:a.eval s=v) (h:W.ownsRow 0 136 18 v L.length (cellsK L))
  (q:Nat) (hx:a.eval x=.slice (some ⟨q,0,none⟩) 1 1) (hz:W.heap[q]?=some (kO y)) (hn:L.length≤1000000)
  (hK:∀ v' W',W'.ownsRow 0 136 18 v' (L ++ [y]).length (cellsK (L ++ [y]))→W.grownBy W' v.ownBlock→(v'.ownBlock=v.ownBlock∨v'.ownBlock=some W.heap.size)→K (a.put o.dst v') W') : Oper.wp Tryz.prog o a W K Q:=by
 obtain⟨i0,hi,hz0,hz1,hz2⟩:=info_parts infoKnown
 obtain⟨v',W',hr,h1,h2,h3,h4⟩:=run_append_own_at (P:=Tryz.prog) W 0 40 o.type 136 i0 _ 18 160 Tryz.underlying40 hi hz0 hz1 hz2 rfl (by omega) v L.length (cellsK L) h ⟨q,0,none⟩ 1 1 (kcells y) rfl (by
   intro j u hj
   have e : (⟨q,0,none⟩ : Addr).add j=⟨q,j,none⟩:=by unfold Addr.add; split <;> simp_all
   rw [e,cell_of hz]
   simpa using hj) (kcells_one _) (by unfold maxLen; omega) (by omega) (Nat.zero_le _)
 unfold Oper.wp execOp
 simp only [ho,resolve,invoke,builtin,Sem.run_bind,Sem.run_pure,Result.andThen_ok,List.map_toArray,List.map_cons,List.map_nil,hs,hx,hr]
 refine hK v' W' ?_ h2 h4
 rw [cellsK_app,List.length_append]; simpa [cellsK] using h1
section
variable {p : Pd} {c : Cl} {name : Nm} {e : Nat} {v : Value} {b : Nat} {cv sv av : Value} {n : Nat} {W : World}
theorem RAt.known (h:RAt p c name e v b cv sv av n W) {k : Nat} {x : AskP×ReplyP} (hx:c.known[k]?=some x) : ∃ g cap,cv=.slice (some ⟨g,0,none⟩) c.known.length cap∧c.known.length≤cap∧g<W.heap.size∧(∀ j,W.frozen? ⟨g,j,none⟩=false)∧∀ j,j<18→W.cell? ⟨g,k*18+j,none⟩=(kcells x)[j]?:=by
 have hc:=h.cache
 rcases h.cache.2 with ⟨_,h0⟩ | ⟨g,cap,cur,rfl,_,hg,hcap,_⟩
 ·have:=(List.getElem?_eq_some_iff.1 hx).1; omega
 ·refine⟨g,cap,rfl,hcap,lt_of hg,fun j=>free_of hg j,fun j hj=>?_⟩
  have h1:=cellsK_get hx hj
  have h2 : j<(kcells x).length:=by rw [kcells_len]; exact hj
  rw [List.getElem?_eq_getElem h2] at h1 ⊢
  have h3:=hc.cells (g:=g) rfl _ _ h1
  have e0 : (⟨g,0,none⟩ : Addr).add (k*18+j)=⟨g,k*18+j,none⟩:=by unfold Addr.add; split <;> simp_all
  rwa [e0] at h3
theorem learn_there {g cap : Nat} (h:RAt p c name e v b (.slice (some ⟨g,0,none⟩) c.known.length cap) sv av n W) {k : Nat} {x : AskP×ReplyP} {a : AskP} (r:ReplyP) (hx:c.known[k]?=some x) (hxa:x.1=a) (hno:∀ (j:Nat) (y:AskP×ReplyP),j<k→c.known[j]?=some y→y.1≠a) :
  RAt p { c with known:=putK c.known a r } name e v b (.slice (some ⟨g,0,none⟩) c.known.length cap) sv av n (W.setCells g (k*18) (kcells (a,r)))∧Chg (ftR e v b (.slice (some ⟨g,0,none⟩) c.known.length cap) sv av) (ftR e v b (.slice (some ⟨g,0,none⟩) c.known.length cap) sv av) W (W.setCells g (k*18) (kcells (a,r))):=by
 obtain⟨hk,hxe⟩:=List.getElem?_eq_some_iff.1 hx
 have hsp : c.known=c.known.take k ++ (a,x.2) :: c.known.drop (k+1):=by
  rw [← hxa]
  show c.known=c.known.take k ++ x :: c.known.drop (k+1)
  rw [← hxe,← List.drop_eq_getElem_cons hk,List.take_append_drop]
 have hq : getK (c.known.take k) a=none:=getK_none fun y hy=>by
  obtain⟨j,hj,he⟩:=List.getElem_of_mem hy
  rw [List.length_take] at hj
  exact hno j y (by omega) (by rw [← he,List.getElem_take]; exact List.getElem?_eq_getElem _)
 have hl : (c.known.take k).length=k:=by rw [List.length_take]; omega
 generalize c.known.take k=q at hsp hq hl
 generalize c.known.drop (k+1)=t at hsp
 have hp : putK c.known a r=q ++ (a,r) :: t:=by rw [hsp]; exact putK_at hq
 have hlen : c.known.length=(q ++ (a,x.2) :: t).length:=by rw [← hsp]
 have hc:=h.cache
 rw [hsp] at hc
 obtain⟨q1,q2⟩:=row_put (r':=r) hc
 rw [hl] at q1 q2
 rw [← hlen] at q1
 have h2:=h.inCache (K':=putK c.known a r) (W':=W.setCells g (k*18) (kcells (a,r))) ⟨q2.os,q2.tape,q2.output,q2.size,fun b' h1 hn=>q2.block b' h1 fun e=>hn (by rw [e]; rfl),fun b' h1=>Or.inl h1⟩ (by rw [hp]; exact q1)
 exact h2
theorem learn_new {W1 : World} {cv' : Value} (h:RAt p c name e v b cv sv av n W) {a : AskP} {r : ReplyP} (hno:∀ (j:Nat) (y:AskP×ReplyP),c.known[j]?=some y→y.1≠a)
  (h1:W1.ownsRow 0 136 18 cv' (c.known ++ [(a,r)]).length (cellsK (c.known ++ [(a,r)]))) (hc:Chg (fun k=>cv.ownBlock=some k) (fun k=>cv'.ownBlock=some k) W W1) :
  RAt p { c with known:=putK c.known a r } name e v b cv' sv av n (W1.setCell ⟨b,2,none⟩ cv')∧Chg (ftR e v b cv sv av) (ftR e v b cv' sv av) W (W1.setCell ⟨b,2,none⟩ cv'):=by
 have hg : getK c.known a=none:=getK_none fun y hy=>by
  obtain⟨j,hj,he⟩:=List.getElem_of_mem hy
  exact hno j y (by rw [← he]; exact List.getElem?_eq_getElem _)
 rw [← putK_new hg r] at h1
 exact h.newCache hc h1
def LearnR (p:Pd) (c:Cl) (name:Nm) (e:Nat) (v:Value) (b:Nat) (cv sv av : Value) (n:Nat) (a:AskP) (r:ReplyP) (W:World) (e1:Ending) (W' : World) : Prop:=
 e1=.returned (.tuple #[])∧∃ cv',RAt p { c with known:=putK c.known a r } name e v b cv' sv av n W'∧Chg (ftR e v b cv sv av) (ftR e v b cv' sv av) W W'
set_option maxRecDepth 100000 in
set_option maxHeartbeats 4000000 in
theorem rlearn_c (h:RAt p c name e v b cv sv av n W) (hK:∀ x∈c.known,x.1.Wf) {a : AskP} (r:ReplyP) (ha:a.Wf) (hl:c.known.length≤1000000) :
  Calls Tryz.prog 59 #[.pointer (some ⟨b,0,none⟩),.agg (kcells (a,r)).toArray] W fun e1 W'=>LearnR p c name e v b cv sv av n a r W e1 W':=by
 have H0:=Lib.hid (An.alloc (An.start h.ob) (kO (a,r)))
 obtain⟨ca,cc,hcv⟩:=row_form h.cache
 have HK:=Lib.hid (And.intro hK (And.intro ha hl))
 generalize hkn : c.known=K at *
 have HKN:=Lib.hid hkn
 clear hK ha hl h hkn
 go_enter Tryz.func59,Tryz.ntmps59
 go_wp2_with fail
 go_loopw [4] (fun i wr=>∃ k : Nat,i=.int .i64 k∧k≤K.length∧(∀ j x,j<k→K[j]?=some x→x.1≠a)∧An (RAt p c name e v b cv sv av n) (ftR e v b cv sv av) W (ftR e v b cv sv av) [(W.heap.size,kO (a,r))] wr) (fun i _=>K.length-(intOf i).toNat)
 case atStart=>exact⟨0,rfl,by omega,fun j x h=>by omega,H0.out⟩
 case round=>
  clear H0
  obtain⟨k,rfl,hk,hno,M⟩:=hrel
  obtain⟨⟨_,_,c2,_⟩,fz⟩:=M.ob.it.reads
  have f2:=fz 2
  have q8:=M.at (q:=W.heap.size) (o:=kO (a,r)) memS
  obtain⟨⟨y0,y1,y2,y3,y4,y5,y6⟩,y7,y8,y9,y10,y11,y12,y13,y14,y15,y16,y17⟩:=cells18 (W:=wr) (g:=W.heap.size) (o:=0) (x:=(a,r)) (fun j hj=>by rw [Nat.zero_add,cell_of q8]; simp)
  simp only [Nat.zero_add] at y1 y2 y3 y4 y5 y6 y7 y8 y9 y10 y11 y12 y13 y14 y15 y16 y17
  have HM:=Lib.hid M
  by_cases hlt : k<K.length
  ·obtain⟨x,hx⟩ : ∃ x,K[k]?=some x:=⟨_,List.getElem?_eq_getElem hlt⟩
   obtain⟨g,cap,hcg,hcap,hgl,hfr,hcell⟩:=M.ob.it.known (by rw [HKN.out]; exact hx)
   rw [HKN.out] at hcg hcap
   clear hcv
   subst hcg
   have hlti : (k:Int)<(K.length : Int):=by omega
   have hk0 : (0:Int)≤(k:Int):=by omega
   have hw : IntKind.i64.wrap ((k:Int)+1)=(k:Int)+1:=IntWalk.i64_in _ (by have:=HK.out.2.2; omega)
   obtain⟨⟨x0,x1,x2,x3,x4,x5,x6⟩,_⟩:=cells18 (hcell)
   have EQ:=eq_ask (HK.out.1 x (List.mem_of_getElem? hx)) HK.out.2.1
   unfold askCells at EQ
   have HX:=Lib.hid (And.intro hx (And.intro hno hlt))
   clear M q8 hcell hno hk hlt hx
   by_cases hxa : x.1=a
   ·rw [decide_eq_true hxa] at EQ
    have HXA:=Lib.hid hxa
    clear hxa
    go_wp2_with fail
    go_quiet (fail)
    have M1:=HM.out.call (bel_drewN wr nq)
    clear x0 x1 x2 x3 x4 x5 x6 c2 fz f2 y0 y1 y2 y3 y4 y5 y6 y7 y8 y9 y10 y11 y12 y13 y14 y15 y16 y17 EQ hfr hcap hgl
    generalize wr.drewN nq=V1 at M1 ⊢
    obtain⟨⟨_,_,c2,_⟩,fz⟩:=M1.ob.it.reads
    have f2:=fz 2
    have q8:=M1.at (q:=W.heap.size) (o:=kO (a,r)) memS
    obtain⟨⟨y0,y1,y2,y3,y4,y5,y6⟩,y7,y8,y9,y10,y11,y12,y13,y14,y15,y16,y17⟩:=cells18 (W:=V1) (g:=W.heap.size) (o:=0) (x:=(a,r)) (fun j hj=>by rw [Nat.zero_add,cell_of q8]; simp)
    simp only [Nat.zero_add] at y1 y2 y3 y4 y5 y6 y7 y8 y9 y10 y11 y12 y13 y14 y15 y16 y17
    obtain⟨g',cap',hcg,hcap,hgl,hfr,hcell⟩:=M1.ob.it.known (by rw [HKN.out]; exact HX.out.1)
    obtain⟨rfl,rfl⟩ : g'=g∧cap'=cap:=by injection hcg with e1 _ e3; injection e1 with e1; injection e1 with e1; exact⟨e1.symm,e3.symm⟩
    rw [HKN.out] at hcap
    have HM1:=Lib.hid M1
    clear M1 hcell hcg q8
    go_wp2_with fail
    clear c2 fz f2 y0 y1 y2 y3 y4 y5 y6 y7 y8 y9 y10 y11 y12 y13 y14 y15 y16 y17 hfr
    have MD:=HM1.out.call (Below.refl _ _).drew
    have HS:=Lib.hid (fun (V:World) (hV:V.heap[b]?=some (.cells (cellsR e name (.slice (some ⟨g',0,none⟩) K.length cap') sv av n) 43 (0,0))∧V.heap[W.heap.size]?=some (kO (a,r)))=>And.intro (And.intro (show V.cell? ⟨b,2,none⟩=some (.slice (some ⟨g',0,none⟩) K.length cap') from cell_of hV.1 2) (free_of hV.1 2)) (show V.rangeAt W.heap.size 0 (kcells (a,r)) from fun j u hu=>by rw [Nat.zero_add,cell_of hV.2]; simpa using hu))
    refine Drawn.start (fun V=>V.heap[b]?=some (.cells (cellsR e name (.slice (some ⟨g',0,none⟩) K.length cap') sv av n) 43 (0,0))∧V.heap[W.heap.size]?=some (kO (a,r))) (fun j=>j == 7) (by kernel_rfl) ?_
    generalize World.drew _=V2 at MD ⊢
    have H0:=And.intro MD.ob.it.cell (MD.at (q:=W.heap.size) (o:=kO (a,r)) memS)
    refine Drawn.tk 0 (some 25) (v:=?_) rfl rfl (by kernel_rfl) rfl (fun _ _ _ h=>h) (Or.inl ⟨rfl,?_⟩) H0 ?_
    rotate_left
    ·intro W hW; have hW:=HS.out W hW; go_simp; try with_reducible rfl
    simp only [put_list,List.set]
    refine Drawn.tk 1 (some 26) (v:=?_) rfl rfl (by kernel_rfl) rfl (fun _ _ _ h=>h) (Or.inl ⟨rfl,?_⟩) H0 ?_
    rotate_left
    ·intro W hW; have hW:=HS.out W hW; go_simp; try with_reducible rfl
    simp only [put_list,List.set]
    refine Drawn.tk 2 (some 27) (v:=?_) rfl rfl (by kernel_rfl) rfl (fun _ _ _ h=>h) (Or.inl ⟨rfl,?_⟩) H0 ?_
    rotate_left
    ·intro W hW; have hW:=HS.out W hW; go_simp; try with_reducible rfl
    simp only [put_list,List.set]
    refine Drawn.tk 3 (some 28) (v:=?_) rfl rfl (by kernel_rfl) rfl (fun _ _ _ h=>h) (Or.inl ⟨rfl,?_⟩) H0 ?_
    rotate_left
    ·intro W hW; have hW:=HS.out W hW; go_simp; try with_reducible rfl
    simp only [put_list,List.set]
    refine Drawn.tk 4 (some 29) (v:=?_) rfl rfl (by kernel_rfl) rfl (fun _ _ _ h=>h) (Or.inl ⟨rfl,?_⟩) H0 ?_
    rotate_left
    ·intro W hW; have hW:=HS.out W hW; go_simp; try with_reducible rfl
    simp only [put_list,List.set]
    refine Drawn.take 5 (some 30) (v:=.agg (kcells (a,r)).toArray) rfl rfl (by kernel_rfl) (by kernel_rfl) (by kernel_rfl) (by kernel_rfl) (by kernel_rfl) rfl (fun _ _ _ h=>h) (yieldsIf_load_mid rfl 136 (.tmp 3) rfl W.heap.size 0 rfl (kcells (a,r)) _ (fun V hV=>(HS.out V hV).2) Tryz.underlying136 rfl (by rw [kcells_len]; kernel_rfl)) H0 ?_
    simp only [put_list,List.set]
    refine Drawn.tk 6 (some 31) (v:=?_) rfl rfl (by kernel_rfl) rfl (fun _ _ _ h=>h) (Or.inl ⟨rfl,?_⟩) H0 ?_
    rotate_left
    ·intro W hW; have hW:=HS.out W hW; go_simp; try with_reducible rfl
    simp only [put_list,List.set]
    have HM2:=Lib.hid MD
    obtain⟨g8,cap8,hcg8,_,_,fr2,hcell8⟩:=MD.ob.it.known (by rw [HKN.out]; exact HX.out.1)
    obtain⟨rfl,rfl⟩ : g8=g'∧cap8=cap':=by injection hcg8 with e1 _ e3; injection e1 with e1; injection e1 with e1; exact⟨e1.symm,e3.symm⟩
    clear HM1 HM hcg8 MD
    refine Drawn.only 7 (by kernel_rfl) rfl rfl (fun K' hK=>?_)
    refine wp_store_mid 136 (.tmp 31) (.tmp 30) rfl g8 (k*18) (kcells (a,r)).toArray rfl rfl (fun j hj=>⟨by rw [hcell8 j hj]; simpa [kcells_len] using hj,fr2 _⟩) (by simp only [List.size_toArray,kcells_len]; kernel_rfl) (all_oneCell_toArray (kcells_one _)) ?_
    refine hK _ _ (fun h _=>by cases h) ?_
    clear hK K' H0 HS hcell8 fr2
    refine Drawn.done (by kernel_rfl) ?_ _
    rw [← HKN.out] at HM2 HX
    obtain⟨r1,r2⟩:=learn_there HM2.out.ob.it r HX.out.1 HXA.out HX.out.2.1
    have r3:=HM2.out.chg.trans r2
    rw [HKN.out] at r1 r3
    have HR:=Lib.hid (And.intro r1 r3)
    clear r1 r2 r3 HM2
    generalize World.setCells _ _ _ _=V3 at HR ⊢
    go_wp2_with fail
    refine bodyPost_ret (results_none rfl _ _ _) rfl ?_
    obtain⟨r1,r3⟩:=HR.out
    rw [← HKN.out] at r1 r3
    exact⟨rfl,_,r1,r3⟩
   ·rw [decide_eq_false hxa] at EQ
    have HXA:=Lib.hid hxa
    clear hxa
    go_wp2_with fail
    go_quiet (fail)
    have M1:=HM.out.call (bel_drewN wr nq)
    clear x0 x1 x2 x3 x4 x5 x6 c2 fz f2 y0 y1 y2 y3 y4 y5 y6 y7 y8 y9 y10 y11 y12 y13 y14 y15 y16 y17 EQ hfr hcap hgl
    generalize wr.drewN nq=V1 at M1 ⊢
    have HM1:=Lib.hid M1
    clear M1 HM
    go_wp2_with fail
    refine⟨⟨k+1,by go_num,by have:=HX.out.2.2; omega,fun j y hj hy=>?_,HM1.out⟩,by have:=HX.out.2.2; simp [intOf]; omega⟩
    rcases Nat.lt_or_ge j k with h1 | h1
    ·exact HX.out.2.1 j y h1 hy
    ·obtain rfl : j=k:=by omega
     rw [HX.out.1] at hy
     cases hy
     exact HXA.out
  ·obtain rfl : k=K.length:=by omega
   have hlti : ¬ ((K.length : Nat) : Int)<(K.length : Int):=by omega
   have HX:=Lib.hid hno
   subst hcv
   clear M q8 hno hk hlt
   go_wp2_with fail
   have MD:=HM.out.call (Below.refl _ _).drew
   clear c2 fz f2 y0 y1 y2 y3 y4 y5 y6 y7 y8 y9 y10 y11 y12 y13 y14 y15 y16 y17
   have HS:=Lib.hid (fun (V:World) (hV:V.heap[b]?=some (.cells (cellsR e name (.slice ca K.length cc) sv av n) 43 (0,0))∧V.heap[W.heap.size]?=some (kO (a,r)))=>And.intro (And.intro (show V.cell? ⟨b,2,none⟩=some (.slice ca K.length cc) from cell_of hV.1 2) (free_of hV.1 2)) (show V.rangeAt W.heap.size 0 (kcells (a,r)) from fun j u hu=>by rw [Nat.zero_add,cell_of hV.2]; simpa using hu))
   refine Drawn.start (fun V=>V.heap[b]?=some (.cells (cellsR e name (.slice ca K.length cc) sv av n) 43 (0,0))∧V.heap[W.heap.size]?=some (kO (a,r))) (fun j=>j == 10) (by kernel_rfl) ?_
   generalize World.drew _=V9 at MD ⊢
   have H0:=And.intro MD.ob.it.cell (MD.at (q:=W.heap.size) (o:=kO (a,r)) memS)
   refine Drawn.tk 0 (some 32) (v:=?_) rfl rfl (by kernel_rfl) rfl (fun _ _ _ h=>h) (Or.inl ⟨rfl,?_⟩) H0 ?_
   rotate_left
   ·intro W hW; have hW:=HS.out W hW; go_simp; try with_reducible rfl
   simp only [put_list,List.set]
   refine Drawn.tk 1 (some 33) (v:=?_) rfl rfl (by kernel_rfl) rfl (fun _ _ _ h=>h) (Or.inl ⟨rfl,?_⟩) H0 ?_
   rotate_left
   ·intro W hW; have hW:=HS.out W hW; go_simp; try with_reducible rfl
   simp only [put_list,List.set]
   refine Drawn.tk 2 (some 34) (v:=?_) rfl rfl (by kernel_rfl) rfl (fun _ _ _ h=>h) (Or.inl ⟨rfl,?_⟩) H0 ?_
   rotate_left
   ·intro W hW; have hW:=HS.out W hW; go_simp; try with_reducible rfl
   simp only [put_list,List.set]
   refine Drawn.tk 3 (some 35) (v:=?_) rfl rfl (by kernel_rfl) rfl (fun _ _ _ h=>h) (Or.inl ⟨rfl,?_⟩) H0 ?_
   rotate_left
   ·intro W hW; have hW:=HS.out W hW; go_simp; try with_reducible rfl
   simp only [put_list,List.set]
   refine Drawn.tk 4 (some 36) (v:=?_) rfl rfl (by kernel_rfl) rfl (fun _ _ _ h=>h) (Or.inl ⟨rfl,?_⟩) H0 ?_
   rotate_left
   ·intro W hW; have hW:=HS.out W hW; go_simp; try with_reducible rfl
   simp only [put_list,List.set]
   refine Drawn.take 5 (some 37) (v:=.agg #[.int .u64 (a.id : Nat),.string (str a.addr),.int .u64 (l3 a.slot : Nat),.int .u64 (l2 a.slot : Nat),.int .u64 (l1 a.slot : Nat),.int .u64 (l0 a.slot : Nat),.int .i64 a.kind,.int .u64 (r.id : Nat),.int .u64 (r.nonce : Nat),.int .u64 (l3 r.bal : Nat),.int .u64 (l2 r.bal : Nat),.int .u64 (l1 r.bal : Nat),.int .u64 (l0 r.bal : Nat),.string (str r.code),.int .u64 (l3 r.value : Nat),.int .u64 (l2 r.value : Nat),.int .u64 (l1 r.value : Nat),.int .u64 (l0 r.value : Nat)]) rfl rfl (by kernel_rfl) (by kernel_rfl) (by kernel_rfl) (by kernel_rfl) (by kernel_rfl) rfl (fun _ _ _ h=>h) (yieldsIf_load_mid rfl 136 (.tmp 3) rfl W.heap.size 0 rfl [.int .u64 (a.id : Nat),.string (str a.addr),.int .u64 (l3 a.slot : Nat),.int .u64 (l2 a.slot : Nat),.int .u64 (l1 a.slot : Nat),.int .u64 (l0 a.slot : Nat),.int .i64 a.kind,.int .u64 (r.id : Nat),.int .u64 (r.nonce : Nat),.int .u64 (l3 r.bal : Nat),.int .u64 (l2 r.bal : Nat),.int .u64 (l1 r.bal : Nat),.int .u64 (l0 r.bal : Nat),.string (str r.code),.int .u64 (l3 r.value : Nat),.int .u64 (l2 r.value : Nat),.int .u64 (l1 r.value : Nat),.int .u64 (l0 r.value : Nat)] _ (fun V hV=>(HS.out V hV).2) Tryz.underlying136 rfl (by kernel_rfl)) H0 ?_
   simp only [put_list,List.set]
   refine Drawn.only 6 (by kernel_rfl) rfl rfl (fun K' hK=>?_)
   go_simp
   have MA:=MD.alloc (.cells #[.int .u64 (a.id : Nat),.string (str a.addr),.int .u64 (l3 a.slot : Nat),.int .u64 (l2 a.slot : Nat),.int .u64 (l1 a.slot : Nat),.int .u64 (l0 a.slot : Nat),.int .i64 a.kind,.int .u64 (r.id : Nat),.int .u64 (r.nonce : Nat),.int .u64 (l3 r.bal : Nat),.int .u64 (l2 r.bal : Nat),.int .u64 (l1 r.bal : Nat),.int .u64 (l0 r.bal : Nat),.string (str r.code),.int .u64 (l3 r.value : Nat),.int .u64 (l2 r.value : Nat),.int .u64 (l1 r.value : Nat),.int .u64 (l0 r.value : Nat)] 136 (0,0))
   refine hK _ _ (fun _ _=>And.intro MA.ob.it.cell (MA.at (q:=W.heap.size) (o:=kO (a,r)) (memC memS))) ?_
   clear hK K' MD H0
   have hz9 : (V9.alloc (.cells #[.int .u64 (a.id : Nat),.string (str a.addr),.int .u64 (l3 a.slot : Nat),.int .u64 (l2 a.slot : Nat),.int .u64 (l1 a.slot : Nat),.int .u64 (l0 a.slot : Nat),.int .i64 a.kind,.int .u64 (r.id : Nat),.int .u64 (r.nonce : Nat),.int .u64 (l3 r.bal : Nat),.int .u64 (l2 r.bal : Nat),.int .u64 (l1 r.bal : Nat),.int .u64 (l0 r.bal : Nat),.string (str r.code),.int .u64 (l3 r.value : Nat),.int .u64 (l2 r.value : Nat),.int .u64 (l1 r.value : Nat),.int .u64 (l0 r.value : Nat)] 136 (0,0))).heap[V9.heap.size]?=some (kO (a,r)):=heap_alloc_new _ _
   obtain⟨q9,hq9⟩ : ∃ q,q=V9.heap.size:=⟨_,rfl⟩
   rw [← hq9] at MA hz9 ⊢
   clear hq9
   generalize World.alloc V9 _=V6 at MA hz9 ⊢
   try simp only [put_list,List.set]
   refine Drawn.only 7 (by kernel_rfl) rfl rfl (fun K' hK=>?_)
   have hown:=MA.ob.it.cache
   rw [HKN.out] at hown
   refine wp_append_known (.tmp 36) (.tmp 38) rfl (.slice ca K.length cc) K (a,r) rfl hown q9 rfl hz9 HK.out.2.2 ?_
   intro v' W' h1 h2 h3
   have hbne : ∀ k,(Value.slice ca K.length cc).ownBlock=some k→k≠b∧k≠W.heap.size:=fun k hk=>by
    refine⟨fun e9=>ty_ne (MA.ob.it.ty.2.2.1 k hk) (by rw [e9]; exact MA.ob.it.ty.2.1) (by decide),fun e9=>?_⟩
    exact (MA.box (W.heap.size,kO (a,r)) (memC memS)).2.2 (Or.inr (Or.inr (Or.inl (by rw [← e9]; exact hk))))
   have hkp : ∀ k,k<V6.heap.size→((Value.slice ca K.length cc).ownBlock=some k→False)→W'.heap[k]?=V6.heap[k]?:=fun k hk hn=>h2.block k hk (fun e9=>hn e9.symm)
   have hb1:=(hkp b (lt_of MA.ob.it.cell) (fun e9=>(hbne b e9).1 rfl)).trans MA.ob.it.cell
   have hq1:=MA.at (q:=W.heap.size) (o:=kO (a,r)) (memC memS)
   have hb2:=(hkp W.heap.size (lt_of hq1) (fun e9=>(hbne _ e9).2 rfl)).trans hq1
   have hc9 : Chg (fun k=>(Value.slice ca K.length cc).ownBlock=some k) (fun k=>v'.ownBlock=some k) V6 W':=⟨h2.os,h2.tape,h2.output,h2.size,fun k hk hn=>h2.block k hk (fun e9=>hn e9.symm),fun k hk=>by rcases h3 with e9 | e9; exact Or.inl (e9 ▸ hk); exact Or.inr (by rw [e9] at hk; cases hk; exact Nat.le_refl _)⟩
   have hnew:=learn_new (a:=a) (r:=r) MA.ob.it (fun j y hy=>HX.out j y (by rw [← HKN.out]; exact (List.getElem?_eq_some_iff.1 hy).1) (by rw [← HKN.out]; exact hy)) (by rw [HKN.out]; exact h1) hc9
   have HR:=Lib.hid (And.intro hnew.1 (MA.chg.trans hnew.2))
   have d2 : W'.cell? ⟨b,2,none⟩=some (.slice ca K.length cc):=cell_of hb1 2
   have d3:=free_of hb1 2
   obtain⟨a',c',hf⟩:=row_form h1
   generalize (K ++ [(a,r)]).length=n9 at hf
   subst hf
   refine hK _ _ (fun _ _=>And.intro hb1 hb2) ?_
   have H5:=Lib.hid (And.intro hb1 hb2)
   clear hK K' h1 h2 h3 hkp hbne hc9 hnew hq1 hz9 hown HM HS hb1 hb2 MA
   try simp only [put_list,List.set]
   refine Drawn.only 8 (by kernel_rfl) rfl rfl (fun K' hK=>?_)
   go_simp
   refine hK _ _ (fun _ _=>H5.out) ?_
   clear hK K'
   try simp only [put_list,List.set]
   refine Drawn.only 9 (by kernel_rfl) rfl rfl (fun K' hK=>?_)
   go_simp
   refine hK _ _ (fun _ _=>H5.out) ?_
   clear hK K'
   try simp only [put_list,List.set]
   refine Drawn.only 10 (by kernel_rfl) rfl rfl (fun K' hK=>?_)
   go_simp
   refine hK _ _ (fun h _=>by cases h) ?_
   clear hK K'
   try simp only [put_none,List.set]
   refine Drawn.done (by kernel_rfl) ?_ _
   go_wp2_with fail
   go_end0
   exact⟨rfl,_,HR.out⟩
end
end Go.Proofs.YtekoaheiapddiaaGreat.Dz
end
