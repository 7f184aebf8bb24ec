/- Merged: RefA, Places, RefB, RefC, Vu, Vv. -/
import Derived.Test.YtekoaheiapddiaaGreatM10
import Derived.Lib.SmallJoins
import Derived.Test.YtekoaheiapddiaaGreatM01
import Derived.RegionTactic
import Derived.Test.YtekoaheiapddiaaGreatM21
import Derived.Test.YtekoaheiapddiaaGreatM16
import Derived.Test.YtekoaheiapddiaaGreatM18
section
namespace Go.Proofs.YtekoaheiapddiaaGreat
open Go.RowKit Go.Joins
theorem Tryz.infoInt : (Tryz.prog.info? 3).map (fun i=>(i.zero,i.size,i.bytes))=some (some (.int .i64 0),1,8):=by kernel_rfl
theorem wrap_near (q:Int) : ∃ t : Int,IntKind.i64.wrap q=q+256*t:=by
 refine⟨-(72057594037927936*((q+9223372036854775808) / 18446744073709551616)),?_⟩
 rw [IntKind.wrap_i64]
 omega
theorem ownsRow_from {w : World} {base base' : Nat} {e : TypeId} {size : Nat} {v : Value} {n : Nat} {xs : List Value} (h:w.ownsRow base e size v n xs) (hb:base'≤base) : w.ownsRow base' e size v n xs:=by
 refine⟨h.1,?_⟩
 rcases h.2 with h0 | ⟨g,cap,cur,h1,h2,h3⟩
 ·exact .inl h0
 ·exact .inr ⟨g,cap,cur,h1,by omega,h3⟩
def rawAt (d0 d1 d2 d3 j : Nat) : Int:=(IntKind.i64.wrap (((nth d0 d1 d2 d3 (j / 8) / 2 ^ (8*(j % 8)) : Nat)) : Int)).tmod 256
theorem raw_byte {x d0 d1 d2 d3 j : Nat} (h:Dig x d0 d1 d2 d3) (hj:j<32) : (rawAt d0 d1 d2 d3 j+256).tmod 256=(byteOf x j : Int)∧-256<rawAt d0 d1 d2 d3 j∧rawAt d0 d1 d2 d3 j<256:=by
 have e:=byteIn_eq h hj
 unfold byteIn at e
 rw [← e]
 unfold rawAt
 rw [show j % 8*8=8*(j % 8) by omega]
 generalize nth d0 d1 d2 d3 (j / 8) / 2 ^ (8*(j % 8))=q
 obtain⟨t,ht⟩:=wrap_near (q:Int)
 rw [ht]
 generalize hv : (q:Int)+256*t=v
 have hm : v % 256=(q:Int) % 256:=by omega
 clear hv ht e
 rcases Int.le_total 0 v with h0 | h0
 ·rw [Int.tmod_eq_emod_of_nonneg h0,Int.tmod_eq_emod_of_nonneg (by omega)]
  omega
 ·have h1 : v.tmod 256=-((-v) % 256):=by
   rw [← Int.tmod_eq_emod_of_nonneg (show 0≤-v by omega),Int.neg_tmod,Int.neg_neg]
  rw [h1,Int.tmod_eq_emod_of_nonneg (by omega)]
  omega
def rawsTo (d0 d1 d2 d3 n : Nat) : List Value:=(List.range n).map fun j=>Value.int .i64 (rawAt d0 d1 d2 d3 j)
theorem rawsTo_succ (d0 d1 d2 d3 n : Nat) : rawsTo d0 d1 d2 d3 (n+1)=rawsTo d0 d1 d2 d3 n ++ [.int .i64 (rawAt d0 d1 d2 d3 n)]:=by
 simp [rawsTo,List.range_succ]
def mixTo (x d0 d1 d2 d3 n : Nat) : List Value:=(List.range 32).map fun j=>Value.int .i64 (if j<n then (byteOf x j : Int) else rawAt d0 d1 d2 d3 j)
theorem mixTo_zero (x d0 d1 d2 d3 : Nat) : mixTo x d0 d1 d2 d3 0=rawsTo d0 d1 d2 d3 32:=by simp [mixTo,rawsTo]
theorem mixTo_at (x d0 d1 d2 d3 n j : Nat) (hj:j<32) : (mixTo x d0 d1 d2 d3 n)[j]?=some (.int .i64 (if j<n then (byteOf x j : Int) else rawAt d0 d1 d2 d3 j)):=by
 simp [mixTo,hj]
theorem mixTo_set (x d0 d1 d2 d3 n : Nat) (hn:n<32) : (mixTo x d0 d1 d2 d3 n).set n (.int .i64 (byteOf x n : Int))=mixTo x d0 d1 d2 d3 (n+1):=by
 apply List.ext_getElem?
 intro j
 rw [List.getElem?_set]
 by_cases hj : j<32
 ·rw [mixTo_at _ _ _ _ _ _ _ hj,mixTo_at _ _ _ _ _ _ _ hj]
  by_cases e : n=j
  ·subst e
   rw [if_pos rfl,if_pos (by simp [mixTo]; omega),if_pos (by omega)]
  ·rw [if_neg e]
   by_cases h : j<n
   ·rw [if_pos h,if_pos (by omega)]
   ·rw [if_neg h,if_neg (by omega)]
 ·have h1 : (mixTo x d0 d1 d2 d3 n)[j]?=none:=by simp [mixTo]; omega
  have h2 : (mixTo x d0 d1 d2 d3 (n+1))[j]?=none:=by simp [mixTo]; omega
  rw [h1,h2,if_neg (by omega)]
def digs (x n : Nat) : List Value:=(List.range n).map fun j=>Value.int .i64 (byteOf x j : Int)
theorem mixTo_all (x d0 d1 d2 d3 : Nat) : mixTo x d0 d1 d2 d3 32=digs x 32:=by
 unfold mixTo digs
 apply List.map_congr_left
 intro j hj
 rw [if_pos (by simpa using hj)]
def RetRow (n:Nat) (xs:List Value) (w:World) (e:Ending) (w' : World) : Prop:=
 ∃ v : Value,e=.returned v∧w'.ownsRow w.heap.size 3 1 v n xs∧Below w.heap.size w w'
def DigsS (w:World) (d0 d1 d2 d3 : Nat) (n:Nat) (v:Value) (xs:List Value) (W:World) : Prop:=
 Below w.heap.size w W∧w.heap.size+1+1≤W.heap.size∧W.heap[w.heap.size+1]?=some (.cells (four d0 d1 d2 d3) 41 (0,0))∧W.ownsRow (w.heap.size+1+1) 3 1 v n xs
theorem digs_grown {w wr w1 : World} {d0 d1 d2 d3 n : Nat} {v v' : Value} {xs news : List Value} {o : Obj} (hB:Below w.heap.size w wr) (hle:w.heap.size+1+1≤wr.heap.size)
  (hl:wr.heap[w.heap.size+1]?=some (.cells (four d0 d1 d2 d3) 41 (0,0))) (hown:wr.ownsRow (w.heap.size+1+1) 3 1 v n xs)
  (hg:(wr.alloc o).grownBy w1 v.ownBlock) {m : Nat} (hown' : w1.ownsRow (w.heap.size+1+1) 3 1 v' m news) : DigsS w d0 d1 d2 d3 m v' news w1:=by
 have hne : some (w.heap.size+1)≠v.ownBlock:=fun h=>by have:=(hown.lt _ h.symm).1; omega
 have hs:=hg.size
 rw [alloc_size] at hs
 refine⟨(hB.alloc (by omega) o).grown hg (by rw [alloc_size]; omega) (fun j hj=>by have:=(hown.lt j hj).1; omega),by omega,?_,hown'⟩
 rw [hg.block _ (by rw [alloc_size]; omega) hne]
 exact (Below.heap_alloc _ _ _ (by omega)).trans hl
set_option maxRecDepth 100000 in
set_option maxHeartbeats 4000000 in
theorem Digits_c {x d3 d2 d1 d0 : Nat} (hx:Dig x d0 d1 d2 d3) (w:World) :
  Calls Tryz.prog 160 #[.agg #[.int .u64 d3,.int .u64 d2,.int .u64 d1,.int .u64 d0]] w (RetRow 32 (digs x 32) w):=by
 have HX:=Lib.hid hx; clear hx
 obtain⟨i0,hi,hz0,hz1,hz2⟩:=info_parts Tryz.infoInt
 go_enter Tryz.func160,Tryz.ntmps160
 go_wp2_with fail
 have H0:=Lib.hid (show DigsS w d0 d1 d2 d3 0 (.slice none 0 0) (rawsTo d0 d1 d2 d3 0) _ from⟨((Below.refl w.heap.size w).alloc (Nat.le_refl _) (.cells #[.int .u64 d3,.int .u64 d2,.int .u64 d1,.int .u64 d0] 61)).alloc (by simp) (.cells (four d0 d1 d2 d3) 41),by simp,heap_alloc2_new _ _ _,World.ownsRow_nil _ _ _ _⟩)
 go_loopw [3,5] (fun v i wr=>∃ k : Nat,i=.int .i64 k∧k≤4∧DigsS w d0 d1 d2 d3 (8*k) v (rawsTo d0 d1 d2 d3 (8*k)) wr) (fun _ i _=>4-(intOf i).toNat)
 case atStart=>exact⟨0,rfl,by omega,H0.out⟩
 case round=>
  clear H0
  obtain⟨i,rfl,hi4,hS⟩:=hrel
  by_cases hlt : i<4
  ·have hS0:=Lib.hid hS; clear hS
   obtain⟨wo,rfl⟩ : ∃ wo : World,wo=wr:=⟨_,rfl⟩
   have hd1 : decide ((i:Int)<4)=true:=by simp; omega
   have hd2 : decide (i<4)=true:=by simp; omega
   go_wp2_with fail
   go_loopw [3,6] (fun v k wr=>∃ j : Nat,k=.int .i64 j∧j≤8∧DigsS w d0 d1 d2 d3 (8*i+j) v (rawsTo d0 d1 d2 d3 (8*i+j)) wr) (fun _ k _=>8-(intOf k).toNat)
   case atStart=>exact⟨0,rfl,by omega,hS0.out⟩
   case round=>
    clear hS0
    obtain⟨j,rfl,hj8,hB,hle,hl,hown⟩:=hrel
    by_cases hjl : j<8
    ·have hc:=(cell_of hl i).trans (four_at _ _ _ _ i hlt)
     have hr : rawAt d0 d1 d2 d3 (8*i+j)=(IntKind.i64.wrap (((nth d0 d1 d2 d3 i / 2 ^ (8*j) : Nat)) : Int)).tmod 256:=by
      unfold rawAt; rw [show (8*i+j) / 8=i by omega,show (8*i+j) % 8=j by omega]
     have HR:=Lib.hid (rawsTo_succ d0 d1 d2 d3 (8*i+j))
     rw [hr] at HR
     have hrw : (wrap64 ((nth d0 d1 d2 d3 i : Int) / 2 ^ (8*j))).tmod 256=(IntKind.i64.wrap (((nth d0 d1 d2 d3 i / 2 ^ (8*j) : Nat)) : Int)).tmod 256:=by simp [wrap64,IntKind.wrap_i64]
     clear hr
     generalize (IntKind.i64.wrap (((nth d0 d1 d2 d3 i / 2 ^ (8*j) : Nat)) : Int)).tmod 256=r at *
     generalize nth d0 d1 d2 d3 i=y at *
     have HB:=Lib.hid hB; have HL:=Lib.hid hl; have HO:=Lib.hid hown
     clear hB hl hown
     go_wp2_with (at_builtin; refine wpList_append_own _ rfl _ _ 261 rfl (w.heap.size+1+1) 3 i0 (.int .i64 0) 1 8 Tryz.underlying261 hi hz0 hz1 hz2 rfl (by decide) _ _ _ rfl (HO.out.alloc _) ⟨wr.heap.size,0,none⟩ 1 1 [.int .i64 r] rfl rfl ?c1 ?c2 ?c3 ?c4 ?c5 ?_)
     case c1=>
      intro j u hj
      match j,hj with
      | 0,hj=>simp at hj; subst hj; simp [Addr.add]
     case c2=>intro u hu; simp at hu; subst hu; rfl
     case c3=>unfold maxLen; omega
     case c4=>omega
     case c5=>simp; omega
     intro v' w1 hown' hgrow _
     have HE:=Lib.hid (digs_grown HB.out hle HL.out HO.out hgrow hown')
     rw [show rawsTo d0 d1 d2 d3 (8*i+j) ++ [.int .i64 r]=rawsTo d0 d1 d2 d3 (8*i+j+1) from HR.out.symm] at HE
     clear hown' hgrow HB HL HO hc hrw
     go_wp2_with fail
     go_roundw
     case rel=>exact⟨j+1,by go_num,by omega,HE.out⟩
     case measure=>simp [intOf]; omega
    ·obtain rfl : j=8:=by omega
     have HS:=Lib.hid (show DigsS w d0 d1 d2 d3 (8*(i+1)) _ (rawsTo d0 d1 d2 d3 (8*(i+1))) wr from⟨hB,hle,hl,by rw [show 8*(i+1)=8*i+8 by omega]; exact hown⟩)
     clear hB hl hown
     go_wp2_with fail
     go_roundw
     case rel=>exact⟨i+1,by go_num,by omega,HS.out⟩
     case measure=>simp [intOf]; omega
  ·obtain rfl : i=4:=by omega
   obtain⟨hB,hle,hl,hown⟩:=hS
   rw [← mixTo_zero x] at hown
   obtain⟨g,cap,rfl⟩:=ownsRow_form hown (by omega)
   have HS:=Lib.hid (And.intro hB (And.intro hle hown))
   clear hB hl hown
   go_wp2_with fail
   go_loopw [7] (fun i wr=>∃ k : Nat,i=.int .i64 k∧k≤32∧Below w.heap.size w wr∧w.heap.size+1+1≤wr.heap.size∧wr.ownsRow (w.heap.size+1+1) 3 1 (.slice (some ⟨g,0,none⟩) 32 cap) 32 (mixTo x d0 d1 d2 d3 k)) (fun i _=>32-(intOf i).toNat)
   case atStart=>exact⟨0,rfl,by omega,HS.out.1,HS.out.2.1,HS.out.2.2⟩
   case round=>
    clear HS
    obtain⟨k,rfl,hk,hB,hle,hown⟩:=hrel
    by_cases hlt : k<32
    ·have hc:=(hown.cellAt k (by omega)).trans (mixTo_at _ _ _ _ _ _ _ hlt)
     rw [if_neg (by omega)] at hc
     have hf:=hown.frozenAt k
     obtain⟨hb,hr1,hr2⟩:=raw_byte HX.out hlt
     have hbl : byteOf x k<256:=Nat.mod_lt _ (by decide)
     have hst:=hown.stored k (.int .i64 (byteOf x k : Int))
     rw [mixTo_set _ _ _ _ _ _ hlt] at hst
     have hlt2:=(hown.lt g rfl)
     have HE:=Lib.hid (And.intro (show Below w.heap.size w (wr.setCell ⟨g,k,none⟩ (.int .i64 (byteOf x k : Int))) from hB.setCell (by show w.heap.size≤g; omega) _) (And.intro (show w.heap.size+1+1≤(wr.setCell ⟨g,k,none⟩ (.int .i64 (byteOf x k : Int))).heap.size by simpa using hle) hst.1))
     clear hst hB hown
     generalize rawAt d0 d1 d2 d3 k=r at *
     generalize byteOf x k=b at *
     have hw : IntKind.i64.wrap (r+256)=r+256:=IntWalk.i64_in _ (by omega)
     go_wp2_with fail
     go_roundw
     case rel=>exact⟨k+1,by go_num,by omega,HE.out.1,HE.out.2.1,HE.out.2.2⟩
     case measure=>simp [intOf]; omega
    ·obtain rfl : k=32:=by omega
     rw [mixTo_all] at hown
     have HO:=Lib.hid hown; have HB:=Lib.hid hB
     clear hown hB
     go_wp2_with fail
     go_ret
     exact⟨_,rfl,ownsRow_from HO.out (by omega),HB.out⟩
end Go.Proofs.YtekoaheiapddiaaGreat
end
section
namespace Go.Proofs.YtekoaheiapddiaaGreat
open Go.RowKit
attribute [local go_sem ↓] Go.wp_at_zero Go.wp_at_succ
end Go.Proofs.YtekoaheiapddiaaGreat
end
section
namespace Go.Proofs.YtekoaheiapddiaaGreat
open Go.RowKit Go.Joins
def lowB (b:Nat→Nat) : Nat→Nat
 | 0=>0
 | k+1=>lowB b k+b k*256 ^ k
def JoinRel (w:World) (b:Nat→Nat) (k:Nat) (W:World) : Prop:=
 ∃ d0 d1 d2 d3,Dig (lowB b k) d0 d1 d2 d3∧lowB b k<256 ^ k∧Fr w w.heap.size (w.heap.size+1) [(w.heap.size,#[.int .u64 0,.int .u64 0,.int .u64 0,.int .u64 0],61)] W∧W.heap[w.heap.size+1]?=some (.cells (four d0 d1 d2 d3) 41 (0,0))
end Go.Proofs.YtekoaheiapddiaaGreat
end
section
namespace Go.Proofs.YtekoaheiapddiaaGreat
open Go.RowKit Go.Joins
def BytesRow (w:World) (v:Value) (n:Nat) (b:Nat→Nat) : Prop:=
 ∃ g cap,v=.slice (some ⟨g,0,none⟩) n cap∧g<w.heap.size∧∀ j,j<n→w.cell? ⟨g,j,none⟩=some (.int .i64 (b j : Nat))
theorem BytesRow.of_owns {w : World} {base : Nat} {v : Value} {n : Nat} {b : Nat→Nat} (h:w.ownsRow base 3 1 v n ((List.range n).map fun j=>Value.int .i64 (b j : Nat))) (hn:0<n) : BytesRow w v n b:=by
 obtain⟨g,cap,rfl⟩:=ownsRow_form h hn
 refine⟨g,cap,rfl,(h.lt g rfl).2,fun j hj=>?_⟩
 rw [h.cellAt j (by omega)]
 simp [hj]
def RetBytes (n:Nat) (b:Nat→Nat) (w:World) (e:Ending) (w' : World) : Prop:=
 ∃ v : Value,e=.returned v∧BytesRow w' v n b∧Below w.heap.size w w'
theorem Digits_b {x d3 d2 d1 d0 : Nat} (hx:Dig x d0 d1 d2 d3) (w:World) :
  Calls Tryz.prog 160 #[.agg #[.int .u64 d3,.int .u64 d2,.int .u64 d1,.int .u64 d0]] w (RetBytes 32 (byteOf x) w):=by
 refine (Digits_c hx w).mono ?_
 rintro e w' ⟨v,rfl,ho,hb⟩
 exact⟨v,rfl,BytesRow.of_owns ho (by decide),hb⟩
theorem below_grown {w wr w1 : World} {n : Nat} {v : Value} {xs : List Value} {o : Obj} (hB:Below w.heap.size w wr) (hown:wr.ownsRow w.heap.size 3 1 v n xs)
  (hg:(wr.alloc o).grownBy w1 v.ownBlock) : Below w.heap.size w w1:=by
 have hs:=hB.size
 exact (hB.alloc hs o).grown hg (by rw [alloc_size]; omega) (fun j hj=>by have:=(hown.lt j hj).1; omega)
end Go.Proofs.YtekoaheiapddiaaGreat
end
section
namespace Go.Proofs.YtekoaheiapddiaaGreat
open Go.RowKit Go.Joins
set_option maxRecDepth 100000 in
set_option maxHeartbeats 4000000 in
theorem JoinS_c {b : Nat→Nat} {n cap : Nat} {a : Option Addr} (hn:n≤32) (w:World) (hx:∀ j,j<n→∃ g,a=some ⟨g,0,none⟩∧g<w.heap.size∧w.cell? ⟨g,j,none⟩=some (.int .i64 (b j : Nat))) (hb:∀ j,b j<256) :
  Calls Tryz.prog 158 #[.slice a n cap] w (RetD (lowB b n) w):=by
 have H:=Fr.one w #[.int .u64 0,.int .u64 0,.int .u64 0,.int .u64 0] 61
 have H0:=Lib.hid (show JoinRel w b 0 _ from⟨0,0,0,0,⟨by decide,by decide,by decide,by decide,rfl⟩,by simp [lowB],H.alloc (.cells (four 0 0 0 0) 41),by rw [← alloc_size w (.cells #[.int .u64 0,.int .u64 0,.int .u64 0,.int .u64 0] 61)]; exact heap_alloc_new _ _⟩)
 have HX:=Lib.hid hx; clear hx H
 have hmk : ∀ w : World,(Instr.makeSlice 295 (.int .i64 4) (.int .i64 4)).run Tryz.prog w=.ok (.slice (some ⟨w.heap.size,0,none⟩) 4 4) (w.alloc (.cells #[.int .u64 0,.int .u64 0,.int .u64 0,.int .u64 0] 41)):=fun _=>by kernel_rfl
 go_enter Tryz.func158,Tryz.ntmps158
 go_wp2_with fail
 go_loopw [4] (fun i wr=>∃ k : Nat,i=.int .i64 k∧k≤n∧JoinRel w b k wr) (fun i _=>n-(intOf i).toNat)
 case atStart=>exact⟨0,rfl,by omega,H0.out⟩
 case round=>
  clear H0
  obtain⟨k,rfl,hk32,d0,d1,d2,d3,hD,hv,hF,hl⟩:=hrel
  by_cases hk : k<n
  ·have hbk:=hb k
   have HL:=Lib.hid (show lowB b (k+1)=lowB b k+b k*256 ^ k from rfl)
   obtain⟨g,rfl,hg,hcx0⟩:=HX.out k hk
   have hcx : wr.cell? ⟨g,k,none⟩=some (.int .i64 (b k : Nat)):=(hF.below.cell (p:=⟨g,k,none⟩) hg).trans hcx0
   clear hcx0
   generalize b k=bb at *
   obtain⟨p1,p2,p3,e0,e1,e2,e3,p4,p5⟩:=of_step hD hv (by omega) hbk
   have g5 : (0:Int)≤(k:Int) / 8:=by omega
   have g6 : (k:Int) / 8<4:=by omega
   have c1:=(cell_of hl (k / 8)).trans (four_at _ _ _ _ _ (by omega))
   have f1:=free_of hl (k / 8)
   have hdm : nth d0 d1 d2 d3 (k / 8)<M64:=hD.nth _
   have ho : Go.bits .or .u64 (nth d0 d1 d2 d3 (k / 8) : Int) (IntKind.u64.wrap ((bb:Int)*2 ^ (8*(k % 8))))=((nth d0 d1 d2 d3 (k / 8)+bb*2 ^ (k % 8*8) : Nat) : Int):=by
    have e1 : ((bb:Int)*2 ^ (8*(k % 8)))=((bb*2 ^ (k % 8*8) : Nat) : Int):=by rw [Nat.mul_comm (k % 8)]; simp
    rw [e1,wrap_nat _ p2,or64 _ _ hdm p2,or_add _ _ _ p1]
   have hlt1 : decide ((k:Int)<32)=true:=by simp; omega
   have hlt2 : decide ((k:Int)<(n:Int))=true:=by simp; omega
   have hlt3 : decide (k<n)=true:=by simp; omega
   have hwb : IntKind.u64.wrap (bb:Int)=(bb:Int):=wrap_nat _ (by unfold M64; omega)
   have HP:=Lib.hid p5; have HV:=Lib.hid p3; have HD:=Lib.hid p4; have Hl:=Lib.hid hl; have HF:=Lib.hid hF
   clear p1 p2 p3 p4 p5 hl hF hdm hv hD
   generalize nth d0 d1 d2 d3 (k / 8)+bb*2 ^ (k % 8*8)=z at *
   generalize nth d0 d1 d2 d3 (k / 8)=d at *
   go_wp2_with fail
   go_region
   go_wp2_with fail
   go_roundw
   case rel=>
    refine⟨k+1,by go_num,by omega,e0,e1,e2,e3,by rw [HL.out]; exact HD.out,by rw [HL.out]; exact HV.out,(HF.out.set (by simp) _).drew,?_⟩
    exact (heap_setCell_same _ _ _ _ _ _ Hl.out).trans (by rw [HP.out])
   case measure=>simp [intOf]; omega
  ·obtain rfl : k=n:=by omega
   obtain⟨c,_⟩:=cells4 hl
   have k0:=(hF.know _ (.head _)).2
   have k1:=cells4 k0
   have n0:=hF.lt (.head _)
   have HF:=Lib.hid hF; have HD:=Lib.hid hD; have K0:=Lib.hid k0
   have hlt2 : decide ((k:Int)<(k:Int))=false:=by simp
   clear hl hF hD hv k0 HX hb
   by_cases h32 : k<32
   ·have hlt1 : decide ((k:Int)<32)=true:=by simp; omega
    go_wp2_with fail
    go_region
    go_wp2_with fail
    exact bodyPost_ret (results_cell_row Tryz.results158 _ _ _ _ _ _ _ rfl (heap_set4 K0.out _ _ _ _) Tryz.underlying61 rfl (by kernel_rfl)) rfl
     ⟨_,_,_,_,rfl,HD.out,(below_set4 HF.out.below (by omega) _ _ _ _).drew⟩
   ·have hlt1 : decide ((k:Int)<32)=false:=by simp; omega
    go_wp2_with fail
    go_region
    go_wp2_with fail
    exact bodyPost_ret (results_cell_row Tryz.results158 _ _ _ _ _ _ _ rfl (heap_set4 K0.out _ _ _ _) Tryz.underlying61 rfl (by kernel_rfl)) rfl
     ⟨_,_,_,_,rfl,HD.out,(below_set4 HF.out.below (by omega) _ _ _ _).drew⟩
def rbP (x k j : Nat) : Nat:=if j<k then byteOf x (31-j) else 0
theorem rbP_zero (x:Nat) : rbP x 0=fun _=>0:=by funext j; unfold rbP; rw [if_neg (by omega)]
theorem rbP_step (x k j : Nat) : upd (rbP x k) k (byteOf x (31-k)) j=rbP x (k+1) j:=by
 unfold upd rbP
 by_cases e : j=k
 ·subst e; rw [if_pos rfl,if_pos (by omega)]
 ·rw [if_neg e]
  by_cases h : j<k
  ·rw [if_pos h,if_pos (by omega)]
  ·rw [if_neg h,if_neg (by omega)]
theorem byteOf_lt (x j : Nat) : byteOf x j<256:=Nat.mod_lt _ (by decide)
theorem rbP_lt (x k j : Nat) : rbP x k j<256:=by
 unfold rbP; split
 ·exact byteOf_lt _ _
 ·omega
theorem rbP_all (x:Nat) : txt 32 (rbP x 32)=str (wordL x):=by
 have h:=txt_byteAt (bytesOf x)
 rw [bytesOf_size] at h
 rw [← bytesOf_str,← h]
 refine txt_congr fun j hj=>?_
 have h1:=byteAt_bytes x j hj
 have h2 : byteAtK (bytesOf x) j=byteAt (bytesOf x) j:=rfl
 rw [h2,h1]
 unfold rbP
 rw [if_pos hj]
theorem rmake32 (W:World) : (Instr.makeSlice 218 (.int .i64 32) (.int .i64 32)).run Tryz.prog W=.ok (.slice (some ⟨W.heap.size,0,none⟩) 32 32) (W.alloc (.cells (madeCells #[.int .u8 0] 32) 5)):=by
 obtain⟨i0,hi,hz0,hz1,hz2⟩:=info_parts infoByte
 have h:=run_makeSlice (P:=Tryz.prog) W 218 5 i0 _ Tryz.underlying218 hi hz0 .i64 .i64 32 32 (by omega) (by omega) (by rw [hz1]; decide) (by rw [hz2]; decide) (by decide)
 rw [hz1] at h
 exact h
theorem Bt.made (W:World) (n x : Nat) : Bt W.heap.size n (rbP x 0) (W.alloc (.cells (madeCells #[.int .u8 0] n) 5)):=fun j hj=>by
 refine⟨?_,free_of (heap_alloc_new W _) j⟩
 rw [cell_of (heap_alloc_new W _) j,← Array.getElem?_toList,toList_madeCells_one,List.getElem?_replicate,if_pos hj,rbP_zero]
 rfl
set_option maxRecDepth 100000 in
set_option maxHeartbeats 2000000 in
theorem rBytes_c {n : Nat} (hn:n<W256) (w:World) : Calls Tryz.prog 114 #[wordV n] w fun e w'=>e=.returned (.string (str (wordL n)))∧Below w.heap.size w w':=by
 have HD:=Lib.hid (fun V=>Digits_b (dig_of hn) V)
 have K0:=Lib.hid ((Kb.start w).box #[.int .u64 (l3 n : Nat),.int .u64 (l2 n : Nat),.int .u64 (l1 n : Nat),.int .u64 (l0 n : Nat)] 61)
 have hmk:=rmake32
 clear hn
 unfold wordV
 go_enter Tryz.func114,Tryz.ntmps114
 go_wp2_with fail
 refine (HD.out _).mono ?_
 rintro e w1 ⟨v,rfl,⟨g,cap,rfl,hg,hc⟩,hb⟩
 have hB1:=Lib.hid (K0.out.call hb).below
 have hal : Below w1.heap.size w1 (w1.alloc (.cells (madeCells #[.int .u8 0] 32) 5)):=(Below.refl _ _).alloc (Nat.le_refl _) _
 have H0:=Lib.hid (show Below w.heap.size w (w1.alloc (.cells (madeCells #[.int .u8 0] 32) 5))∧(∀ j,j<32→(w1.alloc (.cells (madeCells #[.int .u8 0] 32) 5)).cell? ⟨g,j,none⟩=some (.int .i64 (byteOf n j : Nat)))∧Bt w1.heap.size 32 (rbP n 0) (w1.alloc (.cells (madeCells #[.int .u8 0] 32) 5)) from
   ⟨hB1.out.trans (hal.mono hB1.out.size),fun j hj=>(hal.cell (p:=⟨g,j,none⟩) hg).trans (hc j hj),Bt.made w1 32 n⟩)
 have HG:=Lib.hid (And.intro (Nat.ne_of_lt hg) hB1.out.size)
 clear hb hg hc hal HD K0 hB1
 go_wp2_with fail
 generalize w1.alloc (.cells (madeCells #[.int .u8 0] 32) 5)=W1 at *
 generalize hg1 : w1.heap.size=g1 at *
 go_loopw [5] (fun i wr=>∃ k : Nat,i=.int .i64 k∧k≤32∧Below w.heap.size w wr∧(∀ j,j<32→wr.cell? ⟨g,j,none⟩=some (.int .i64 (byteOf n j : Nat)))∧Bt g1 32 (rbP n k) wr) (fun i _=>32-(intOf i).toNat)
 case atStart=>exact⟨0,rfl,by omega,H0.out⟩
 case round=>
  clear H0
  obtain⟨k,rfl,hk,hB,hc,ht⟩:=hrel
  by_cases hk32 : k<32
  ·obtain⟨q,hq⟩ : ∃ q,q=31-k:=⟨_,rfl⟩
   have hq31 : q≤31:=by omega
   have hq' : 31-(k:Int)=(q:Int):=by omega
   have hcq:=hc q (by omega)
   have hz:=byteOf_lt n q
   have hset:=ht.set hk32 (byteOf n q)
   have hset':=hset.congr (Q:=rbP n (k+1)) (fun j _=>by rw [hq]; exact rbP_step n k j)
   have d0:=(ht k hk32).1
   have e0:=(ht k hk32).2
   have HN:=Lib.hid (And.intro hB (And.intro hc hset'))
   clear hB hc ht hset hset' hq
   generalize byteOf n q=z at *
   have hw1 : IntKind.u8.wrap (z:Int)=(z:Int):=by rw [IntKind.wrap_u8]; omega
   have hw2 : (z:Int) % 256=(z:Int):=by omega
   have hkl : (k:Int)<32:=by omega
   clear hz hk32
   go_wp2_with fail
   go_roundw
   case rel=>exact⟨k+1,by go_num,by omega,HN.out.1.setCell (p:=⟨g1,k,none⟩) HG.out.2 _,fun j hj=>(World.cell?_setCell_other _ _ _ _ (by intro e; injection e with e1 e2; exact HG.out.1 e1.symm)).trans (HN.out.2.1 j hj),HN.out.2.2⟩
   case measure=>simp [intOf]; omega
  ·obtain rfl : k=32:=by omega
   have hcv:=ht.conv (rbP_lt n 32) 32
   rw [rbP_all] at hcv
   have HB:=Lib.hid hB
   clear hB hc ht hk32
   go_wp2_with fail
   go_ret
   exact⟨rfl,HB.out⟩
theorem lowB_last (s:ByteArray) (k:Nat) : lowB (fun j=>byteAt s (s.size-1-j)) k=lastOf s k:=by
 induction k with
 | zero=>rfl
 | succ k ih=>simp only [lowB,lastOf,ih]
def ofRow (s:ByteArray) (k:Nat) : List Value:=(List.range k).map fun j=>.int .i64 (byteAt s (s.size-1-j) : Nat)
theorem ofRow_succ (s:ByteArray) (k:Nat) : ofRow s (k+1)=ofRow s k ++ [.int .i64 (byteAt s (s.size-1-k) : Nat)]:=by
 unfold ofRow
 rw [List.range_succ,List.map_append]; rfl
set_option maxRecDepth 100000 in
set_option maxHeartbeats 2000000 in
theorem rOf_long (s:ByteArray) (hs:32<s.size) (w:World) :
  Calls Tryz.prog 110 #[.string s] w fun e w'=>
   e=.returned (.tuple #[.agg #[.int .u64 0,.int .u64 0,.int .u64 0,.int .u64 0],.bool false])∧Below w.heap.size w w':=by
 have hs' : (32:Int)<(s.size : Int):=by omega
 go_enter Tryz.func110,Tryz.ntmps110
 go_wp2
 exact bodyPost_ret (results_cell_slot Tryz.results110 _ _ _ _ _ _ _ _ rfl rfl (heap_alloc_new _ _) Tryz.underlying61 rfl (by kernel_rfl)) rfl ⟨rfl,(Below.refl _ _).alloc (Nat.le_refl _) _⟩
set_option maxRecDepth 100000 in
set_option maxHeartbeats 4000000 in
theorem rOf_short (s:ByteArray) (hs:s.size≤32) (w:World) :
  Calls Tryz.prog 110 #[.string s] w (RetWB (fun v=>v=lastOf s s.size) true w):=by
 have hs' : ¬ (32:Int)<(s.size : Int):=by omega
 have hal : Below w.heap.size w (w.alloc (.cells #[.int .u64 0,.int .u64 0,.int .u64 0,.int .u64 0] 61)):=(Below.refl _ _).alloc (Nat.le_refl _) _
 have hbx : (w.alloc (.cells #[.int .u64 0,.int .u64 0,.int .u64 0,.int .u64 0] 61)).heap[w.heap.size]?=some (.cells #[.int .u64 0,.int .u64 0,.int .u64 0,.int .u64 0] 61 (0,0)):=heap_alloc_new _ _
 have HA:=Lib.hid (And.intro hal hbx)
 clear hal hbx
 obtain⟨i0,hi,hz0,hz1,hz2⟩:=info_parts Tryz.infoInt
 go_enter Tryz.func110,Tryz.ntmps110
 go_wp2_with fail
 generalize w.alloc (.cells #[.int .u64 0,.int .u64 0,.int .u64 0,.int .u64 0] 61)=w0 at *
 have hw0 : wrap64 ((s.size : Int)-1)=(s.size : Int)-1:=by unfold wrap64; omega
 try rw [hw0]
 clear hw0
 go_loopw [4,5] (fun v i wr=>∃ (k:Nat) (z:Int),i=.int .i64 z∧z=(s.size : Int)-1-(k:Int)∧k≤s.size∧Below w0.heap.size w0 wr∧wr.ownsRow w0.heap.size 3 1 v k (ofRow s k)) (fun _ i _=>(intOf i+1).toNat)
 case atStart=>exact⟨0,_,rfl,by simp,by omega,Below.refl _ _,World.ownsRow_nil _ _ _ _⟩
 case round=>
  obtain⟨k,z,rfl,hz,hk,hB,hown⟩:=hrel
  by_cases hkl : k<s.size
  ·obtain⟨q,hq⟩ : ∃ q,q=s.size-1-k:=⟨_,rfl⟩
   have hqs : q<s.size:=by omega
   obtain rfl : z=(q:Int):=by omega
   have hix:=index_i64 s (q:Int) q hqs rfl
   have HS:=Lib.hid (ofRow_succ s k)
   rw [← hq] at HS
   have HB:=Lib.hid hB; have HO:=Lib.hid hown
   have HQ:=Lib.hid (And.intro hz (And.intro hk (And.intro hkl hs)))
   clear hB hown hz hq hkl hk hs'
   have hby:=byteAt_lt s q
   generalize byteAt s q=y at *
   have hwy : wrap64 (y:Int)=(y:Int):=by unfold wrap64; omega
   have hq0 : (0:Int)≤(q:Int):=by omega
   clear hby hqs
   go_wp2_with (at_builtin; refine wpList_append_own _ rfl _ _ 261 rfl w0.heap.size 3 i0 (.int .i64 0) 1 8 Tryz.underlying261 hi hz0 hz1 hz2 rfl (by decide) _ _ _ rfl (HO.out.alloc _) ⟨wr.heap.size,0,none⟩ 1 1 [.int .i64 (y:Nat)] rfl rfl ?c1 ?c2 ?c3 ?c4 ?c5 ?_)
   case c1=>
    intro j u hj
    match j,hj with
    | 0,hj=>simp at hj; subst hj; simp [Addr.add]
   case c2=>intro u hu; simp at hu; subst hu; rfl
   case c3=>have:=HQ.out; unfold maxLen; omega
   case c4=>have:=HQ.out; omega
   case c5=>have:=HB.out.size; simp; omega
   intro v' w1 hown' hgrow _
   rw [← HS.out] at hown'
   have HE:=Lib.hid (And.intro (below_grown HB.out HO.out hgrow) hown')
   clear hown' hgrow HB HO HS hix
   have hq1 : wrap64 ((q:Int)-1)=(q:Int)-1:=by have:=HQ.out; unfold wrap64; omega
   go_wp2_with fail
   go_roundw
   case rel=>exact⟨k+1,(q:Int)-1,by first | rfl | rw [hq1],by have:=HQ.out; omega,by have:=HQ.out; omega,HE.out.1,HE.out.2⟩
   case measure=>have:=HQ.out; simp [intOf,hq1]; try omega
  ·obtain rfl : k=s.size:=by omega
   have hz0' : ¬ (0:Int)≤z:=by omega
   have hz1' : z<0:=by omega
   have hbox:=(hB.block _ (lt_of HA.out.2)).trans HA.out.2
   have HB:=Lib.hid (And.intro hB hbox)
   rcases ownsRow_forms hown with ⟨rfl,h0⟩ | ⟨g,cap,rfl⟩
   ·have HJ2:=Lib.hid (JoinS_c (b:=fun j=>byteAt s (s.size-1-j)) (a:=none) (cap:=0) hs wr (fun j hj=>absurd hj (by omega)) (fun j=>byteAt_lt _ _))
    have h00 : s.size=0:=h0
    rw [show (Value.slice none s.size 0)=Value.slice none 0 0 by rw [h00]] at HJ2
    clear hB hbox hown hz h0 hs' hkl hk h00
    go_wp2_with fail
    refine HJ2.out.mono ?_
    rintro e w2 ⟨s3,s2,s1,s0,rfl,hd,hb⟩
    have hbx:=(hb.block _ (lt_of HB.out.2)).trans HB.out.2
    obtain⟨_,z0,z1,z2,z3⟩:=cells4 hbx
    have HF:=Lib.hid (And.intro hd (And.intro ((HA.out.1.trans (HB.out.1.mono HA.out.1.size)).trans (hb.mono (HA.out.1.trans (HB.out.1.mono HA.out.1.size)).size)) hbx))
    clear hd hb HJ2 hbx
    go_wp2_with fail
    exact bodyPost_ret (results_cell_slot Tryz.results110 _ _ _ _ _ _ _ _ rfl rfl (heap_set4 HF.out.2.2 _ _ _ _) Tryz.underlying61 rfl (by kernel_rfl)) rfl
     ⟨_,_,_,_,_,rfl,HF.out.1,lowB_last s _,below_set4 HF.out.2.1 (Nat.le_refl _) _ _ _ _⟩
   ·have HJ2:=Lib.hid (JoinS_c (b:=fun j=>byteAt s (s.size-1-j)) (a:=some ⟨g,0,none⟩) (cap:=cap) hs wr (fun j hj=>⟨g,rfl,(hown.lt g rfl).2,by rw [hown.cellAt j (by omega)]; unfold ofRow; simp [hj]⟩) (fun j=>byteAt_lt _ _))
    clear hB hbox hown hz hs' hkl hk
    go_wp2_with fail
    refine HJ2.out.mono ?_
    rintro e w2 ⟨s3,s2,s1,s0,rfl,hd,hb⟩
    have hbx:=(hb.block _ (lt_of HB.out.2)).trans HB.out.2
    obtain⟨_,z0,z1,z2,z3⟩:=cells4 hbx
    have HF:=Lib.hid (And.intro hd (And.intro ((HA.out.1.trans (HB.out.1.mono HA.out.1.size)).trans (hb.mono (HA.out.1.trans (HB.out.1.mono HA.out.1.size)).size)) hbx))
    clear hd hb HJ2 hbx
    go_wp2_with fail
    exact bodyPost_ret (results_cell_slot Tryz.results110 _ _ _ _ _ _ _ _ rfl rfl (heap_set4 HF.out.2.2 _ _ _ _) Tryz.underlying61 rfl (by kernel_rfl)) rfl
     ⟨_,_,_,_,_,rfl,HF.out.1,lowB_last s _,below_set4 HF.out.2.1 (Nat.le_refl _) _ _ _ _⟩
theorem rOf_c (s:List UInt8) (w:World) : Calls Tryz.prog 110 #[.string (str s)] w fun e w'=>e=.returned (.tuple #[wordV (if s.length≤32 then ofL s else 0),.bool (decide (s.length≤32))])∧Below w.heap.size w w':=by
 by_cases h : s.length≤32
 ·rw [if_pos h]
  refine (rOf_short (str s) (by rw [str_size]; exact h) w).mono ?_
  rintro e w' ⟨n,s3,s2,s1,s0,rfl,hd,rfl,hb⟩
  obtain⟨rfl,rfl,rfl,rfl⟩:=dig_eq hd
  exact⟨by simp [h,wordV,ofL],hb⟩
 ·rw [if_neg h]
  refine (rOf_long (str s) (by rw [str_size]; omega) w).mono ?_
  rintro e w' ⟨rfl,hb⟩
  exact⟨by simp [h,wordV,lim_zero],hb⟩
end Go.Proofs.YtekoaheiapddiaaGreat
end
section
namespace Go.Proofs.YtekoaheiapddiaaGreat
open Go.RowKit
theorem neq_zero {n : Nat} (hn:n<W256) (w:World) : (binOp .neq 61 (wordV n) (.agg #[.int .u64 0,.int .u64 0,.int .u64 0,.int .u64 0])).run Tryz.prog w=.ok (.bool (!decide (n=0))) w:=by
 have e:=eq_zero hn w
 unfold wordV at e ⊢
 rw [run_eql_struct] at e
 rw [run_neq_struct]
 generalize (Op.equalIn 10000 61 _ _).run Tryz.prog w=r at e ⊢
 cases r with
 | ok v w'=>
  simp only [Result.andThen_ok,Result.ok.injEq,Value.bool.injEq] at e ⊢
  obtain⟨rfl,rfl⟩:=e
  exact⟨rfl,rfl⟩
 | halt x w'=>simp [Result.andThen] at e
set_option maxRecDepth 100000 in
theorem rtext_c (s:ByteArray) (w:World) : Calls Tryz.prog 113 #[.string s] w fun e w'=>e=.returned (textV s)∧Below w.heap.size w w':=by
 have H:=Lib.hid (And.intro ((Below.refl w.heap.size w).alloc (Nat.le_refl _) (.cells #[.bool false,.string s,.slice none 0 0] 125)) (heap_alloc_new w (.cells #[.bool false,.string s,.slice none 0 0] 125)))
 unfold textV
 go_enter Tryz.func113,Tryz.ntmps113
 go_wp2_with fail
 exact bodyPost_ret (results_cell_row Tryz.results113 _ _ _ _ _ _ _ rfl H.out.2 Tryz.underlying125 rfl (by kernel_rfl)) rfl ⟨rfl,H.out.1⟩
set_option maxRecDepth 100000 in
theorem rnumber_c (n:Nat) (hn:n<M64) (w:World) : Calls Tryz.prog 112 #[.int .u64 n] w fun e w'=>e=.returned (textV (str (num n)))∧Below w.heap.size w w':=by
 have HC:=Lib.hid (fun V=>rbytes_c n hn V)
 have h0:=heap_alloc_new w (.cells #[.bool false,.string ⟨#[]⟩,.slice none 0 0] 125)
 have H:=Lib.hid (And.intro ((Below.refl w.heap.size w).alloc (Nat.le_refl _) (.cells #[.bool false,.string ⟨#[]⟩,.slice none 0 0] 125)) h0)
 clear h0 hn
 generalize str (num n)=t at *
 unfold textV
 go_enter Tryz.func112,Tryz.ntmps112
 go_wp2_with fail
 refine (HC.out _).mono ?_
 rintro e w1 ⟨rfl,hb⟩
 have h1:=(hb.block _ (lt_of H.out.2)).trans H.out.2
 obtain⟨_,z0,z1,z2⟩:=cells3 h1
 have H1:=Lib.hid (And.intro (H.out.1.trans (hb.mono H.out.1.size)) h1)
 clear h1 hb H
 go_wp2_with fail
 exact bodyPost_ret (results_cell_row Tryz.results112 _ _ _ _ _ _ _ rfl (heap_set3 H1.out.2 _ _ _) Tryz.underlying125 rfl (by kernel_rfl)) rfl ⟨rfl,below_set3 H1.out.1 (Nat.le_refl _) _ _ _⟩
theorem own_litR (W:World) (f:Fo) (cs:Array Value) (hc:Cel (fun _=>False) f cs.toList W) (n:Nat) (hn:n=f.len) (hm:n≤1000) : OwnR W.heap.size f (.slice (some ⟨W.heap.size,0,none⟩) n n) (W.alloc (.cells cs 125)):=by
 subst hn
 have hl : cs.size=f.len*3:=by rw [← Array.length_toList]; exact hc.length
 refine⟨fun _=>False,cs.toList,⟨by rw [Array.length_toList]; exact hl,Or.inr ⟨W.heap.size,f.len,cs,rfl,Nat.le_refl _,heap_alloc_new _ _,Nat.le_refl _,by unfold maxLen; omega,hl,?_⟩⟩,hc.kept (fun _ h=>h.elim) _ _,fun _ h=>h.elim⟩
 rw [List.take_of_length_le (by rw [Array.length_toList]; omega)]
theorem renc_list {S : Nat→Prop} {f : Fo} {v : Value} {w : World} (h:SlF S f v w) (hS:∀ k,S k→k<w.heap.size) (hl:f.enc.length≤60000) :
  Calls Tryz.prog 115 #[.agg #[.bool true,.string ⟨#[]⟩,v]] w fun e w'=>e=.returned (.string (str (It.list f).enc))∧Below w.heap.size w w':=
 renc_c (.list f) (by have:=It.list_len f (by omega); omega) S _ w hS ⟨v,rfl,h⟩
def RAskB (w:World) (a:AskP) (V:World) : Prop:=Below w.heap.size w V∧V.heap[w.heap.size]?=some (.cells (askCells a) 128 (0,0))
theorem RAskB.cells {w V : World} {a : AskP} (h:RAskB w a V) : V.cell? ⟨w.heap.size,0,none⟩=some (.int .u64 a.id)∧V.cell? ⟨w.heap.size,1,none⟩=some (.string (str a.addr))∧V.cell? ⟨w.heap.size,2,none⟩=some (.int .u64 (l3 a.slot : Nat))∧V.cell? ⟨w.heap.size,3,none⟩=some (.int .u64 (l2 a.slot : Nat))∧V.cell? ⟨w.heap.size,4,none⟩=some (.int .u64 (l1 a.slot : Nat))∧V.cell? ⟨w.heap.size,5,none⟩=some (.int .u64 (l0 a.slot : Nat))∧V.cell? ⟨w.heap.size,6,none⟩=some (.int .i64 a.kind):=
 ⟨cell_of h.2 0,cell_of h.2 1,cell_of h.2 2,cell_of h.2 3,cell_of h.2 4,cell_of h.2 5,cell_of h.2 6⟩
theorem RAskB.call {w V V' : World} {a : AskP} (h:RAskB w a V) (hb:Below V.heap.size V V') : RAskB w a V':=⟨h.1.trans (hb.mono h.1.size),(hb.block _ (lt_of h.2)).trans h.2⟩
theorem RAskB.start (w:World) (a:AskP) : RAskB w a (w.alloc (.cells (askCells a) 128)):=⟨(Below.refl _ _).alloc (Nat.le_refl _) _,heap_alloc_new _ _⟩
set_option maxRecDepth 100000 in
set_option maxHeartbeats 2000000 in
theorem rputAsk_bad {a : AskP} (hw:a.Wf) (ho:¬ a.Ok) (w:World) : Calls Tryz.prog 111 #[askV a] w fun e w'=>e=.returned (putAskV a)∧Below w.heap.size w w':=by
 rw [putAskV_no ho]
 have h0:=RAskB.start w a
 obtain⟨c0,c1,c2,c3,c4,c5,c6⟩:=h0.cells
 have H:=Lib.hid h0.1
 have hz : ((str a.addr).size : Int)=a.addr.length:=by rw [str_size]
 have hs : (str a.addr).size=a.addr.length:=str_size _
 have heq:=fun W=>neq_zero hw.slot W
 unfold wordV at heq
 have HO:=Lib.hid ho
 clear h0 hw ho hz
 unfold askV askCells at *
 by_cases h1 : a.kind=1
 ·rw [h1] at c6 H ⊢
  by_cases hl : a.addr.length=20
  ·have h0 : ¬ a.slot=0:=fun h0=>HO.out ⟨hl,Or.inr ⟨h1,h0⟩⟩
   rw [show (!decide (a.slot=0))=true by simp [h0]] at heq
   rw [hl] at hs
   clear h0 h1 hl
   generalize str a.addr=y at *
   go_enter Tryz.func111,Tryz.ntmps111
   go_wp2_with fail
   go_ret2
   exact⟨rfl,H.out⟩
  ·have hn : ¬ ((str a.addr).size : Int)=20:=by rw [hs]; omega
   clear hl h1 hs
   generalize str a.addr=y at *
   go_enter Tryz.func111,Tryz.ntmps111
   go_wp2_with fail
   go_ret2
   exact⟨rfl,H.out⟩
 ·by_cases h2 : a.kind=2
  ·have hl : ¬ a.addr.length=20:=fun hl=>HO.out ⟨hl,Or.inl h2⟩
   have hn : ¬ ((str a.addr).size : Int)=20:=by rw [hs]; omega
   rw [h2] at c6 H ⊢
   clear hl h1 h2 hs
   generalize str a.addr=y at *
   go_enter Tryz.func111,Tryz.ntmps111
   go_wp2_with fail
   go_ret2
   exact⟨rfl,H.out⟩
  ·have hb1 : (a.kind == 1)=false:=by simp [h1]
   have hb2 : (a.kind == 2)=false:=by simp [h2]
   clear hs
   generalize str a.addr=y at *
   go_enter Tryz.func111,Tryz.ntmps111
   go_wp2_with fail
   go_ret2
   exact⟨rfl,H.out⟩
set_option maxRecDepth 100000 in
set_option maxHeartbeats 4000000 in
theorem rputAsk_ok {a : AskP} (hw:a.Wf) (ho:a.Ok) (w:World) : Calls Tryz.prog 111 #[askV a] w fun e w'=>e=.returned (putAskV a)∧Below w.heap.size w w':=by
 obtain⟨k64,hk64,hkM⟩ : ∃ k64 : Nat,IntKind.u64.wrap a.kind=(k64:Int)∧k64<M64:=by
  rw [IntKind.wrap_u64]
  unfold M64
  exact⟨(a.kind % 18446744073709551616).toNat,by omega,by omega⟩
 have K0:=Lib.hid (RAskB.start w a)
 have hz : (str a.addr).size=20:=by rw [str_size]; exact ho.1
 have HC1:=Lib.hid (fun W=>rnumber_c a.id hw.id W)
 have HC2:=Lib.hid (fun W=>rnumber_c k64 hkM W)
 obtain⟨c0,c1,c2,c3,c4,c5,c6⟩:=K0.out.cells
 have HC3:=Lib.hid (fun W=>rtext_c (str a.addr) W)
 unfold textV at HC1 HC2 HC3
 have HW:=Lib.hid (And.intro ho (And.intro hw (And.intro hk64 hkM)))
 have HO:=Lib.hid (putAskV_ok ho)
 have heq:=fun W=>neq_zero hw.slot W
 unfold wordV at heq
 have hkk : a.kind=1∧a.slot=0∨a.kind=2:=by rcases ho.2 with h | h; exact Or.inr h; exact Or.inl h
 clear hw hkM ho
 unfold askV
 unfold askCells at c0 c1 c2 c3 c4 c5 c6
 rcases hkk with ⟨h1,h0⟩ | h2
 ·have hk1 : k64 = 1 := by have h := HW.out.2.2.1; rw [h1] at h; have h2 : IntKind.u64.wrap 1 = 1 := by decide
                           omega
  have HF:=Lib.hid (show a.fo=.text (num a.id) (.text (num k64) (.text a.addr .nil)) from by unfold AskP.fo; rw [h1,hk1]; rfl)
  rw [show (!decide (a.slot=0))=false by simp [h0]] at heq
  have HK:=Lib.hid h1
  rw [h1] at c6
  clear h0 hk1
  generalize hst : str a.addr=y at *
  rw [h1]
  clear h1
  go_enter Tryz.func111,Tryz.ntmps111
  go_wp2_with fail
  subst hst
  clear c0 c1 c2 c3 c4 c5 c6 heq
  have e1 : askCells a=#[.int .u64 a.id,.string (str a.addr),.int .u64 (l3 a.slot : Nat),.int .u64 (l2 a.slot : Nat),.int .u64 (l1 a.slot : Nat),.int .u64 (l0 a.slot : Nat),.int .i64 1]:=by unfold askCells; rw [HK.out]
  have H0 : RAskB w a (w.alloc (.cells #[.int .u64 a.id,.string (str a.addr),.int .u64 (l3 a.slot : Nat),.int .u64 (l2 a.slot : Nat),.int .u64 (l1 a.slot : Nat),.int .u64 (l0 a.slot : Nat),.int .i64 1] 128)).drew:=by rw [← e1]; exact (RAskB.start w a).call (Below.refl _ _).drew
  clear e1
  have HS:=Lib.hid (fun (V:World) (hV:RAskB w a V)=>hV.cells)
  refine Drawn.start (fun V=>RAskB w a V) (fun _=>false) (by kernel_rfl) ?_
  refine Drawn.tk 0 (some 30) (v:=?_) rfl rfl (by kernel_rfl) rfl (fun _ _ _ h=>h) (Or.inl ⟨rfl,?_⟩) H0 ?_
  rotate_left
  ·intro W hW; have hW:=HS.out W hW; go_simp; try with_reducible rfl
  simp only [put_list,List.set]
  refine Drawn.tk 1 (some 31) (v:=?_) rfl rfl (by kernel_rfl) rfl (fun _ _ _ h=>h) (Or.inl ⟨rfl,?_⟩) H0 ?_
  rotate_left
  ·intro W hW; have hW:=HS.out W hW; go_simp; try with_reducible rfl
  simp only [put_list,List.set]
  refine Drawn.tk 3 (some 33) (v:=?_) rfl rfl (by kernel_rfl) rfl (fun _ _ _ h=>h) (Or.inl ⟨rfl,?_⟩) H0 ?_
  rotate_left
  ·intro W hW; have hW:=HS.out W hW; go_simp; try with_reducible rfl
  simp only [put_list,List.set]
  refine Drawn.tk 4 (some 34) (v:=?_) rfl rfl (by kernel_rfl) rfl (fun _ _ _ h=>h) (Or.inl ⟨rfl,?_⟩) H0 ?_
  rotate_left
  ·intro W hW; have hW:=HS.out W hW; go_simp; try with_reducible rfl
  simp only [put_list,List.set]
  refine Drawn.tk 5 (some 35) (v:=?_) rfl rfl (by kernel_rfl) rfl (fun _ _ _ h=>h) (Or.inl ⟨rfl,?_⟩) H0 ?_
  rotate_left
  ·intro W hW; have hW:=HS.out W hW; go_simp; try with_reducible rfl
  simp only [put_list,List.set]
  refine Drawn.tk 7 (some 37) (v:=?_) rfl rfl (by kernel_rfl) rfl (fun _ _ _ h=>h) (Or.inl ⟨rfl,?_⟩) H0 ?_
  rotate_left
  ·intro W hW; have hW:=HS.out W hW; go_simp; try with_reducible rfl
  simp only [put_list,List.set]
  refine Drawn.tk 8 (some 38) (v:=?_) rfl rfl (by kernel_rfl) rfl (fun _ _ _ h=>h) (Or.inl ⟨rfl,?_⟩) H0 ?_
  rotate_left
  ·intro W hW; have hW:=HS.out W hW; go_simp; try with_reducible rfl
  simp only [put_list,List.set]
  refine Drawn.only 2 (by kernel_rfl) rfl rfl (fun K hK=>?_)
  go_simp
  refine (HC1.out _).mono ?_
  rintro e V2 ⟨rfl,hb⟩
  refine hK _ _ (fun _ _=>H0.call hb) ?_
  replace H0:=H0.call hb
  clear hK K hb
  try simp only [put_list,List.set]
  refine Drawn.only 6 (by kernel_rfl) rfl rfl (fun K hK=>?_)
  go_simp
  refine (HC2.out _).mono ?_
  rintro e V6 ⟨rfl,hb⟩
  refine hK _ _ (fun _ _=>H0.call hb) ?_
  replace H0:=H0.call hb
  clear hK K hb
  try simp only [put_list,List.set]
  refine Drawn.only 9 (by kernel_rfl) rfl rfl (fun K hK=>?_)
  go_simp
  refine (HC3.out _).mono ?_
  rintro e V9 ⟨rfl,hb⟩
  refine hK _ _ (fun _ _=>H0.call hb) ?_
  replace H0:=H0.call hb
  clear hK K hb
  try simp only [put_list,List.set]
  refine Drawn.only 10 (by kernel_rfl) rfl rfl (fun K hK=>?_)
  go_simp
  refine hK _ _ (fun _ _=>H0.call ((Below.refl _ _).alloc (Nat.le_refl _) _)) ?_
  clear hK K
  try simp only [put_list,List.set]
  have H1 : RAskB w a (V9.alloc (.cells #[.bool false,.string (str (num a.id)),.slice none 0 0,.bool false,.string (str (num k64)),.slice none 0 0,.bool false,.string (str a.addr),.slice none 0 0] 125)):=H0.call ((Below.refl _ _).alloc (Nat.le_refl _) _)
  refine Drawn.tk 11 (some 4) (v:=?_) rfl rfl (by kernel_rfl) rfl (fun _ _ _ h=>h) (Or.inl ⟨rfl,?_⟩) H1 ?_
  rotate_left
  ·intro W hW; have hW:=HS.out W hW; go_simp; try with_reducible rfl
  simp only [put_list,List.set]
  refine Drawn.done (by kernel_rfl) ?_ _
  have hown:=own_litR V9 (.text (num a.id) (.text (num k64) (.text a.addr .nil))) #[.bool false,.string (str (num a.id)),.slice none 0 0,.bool false,.string (str (num k64)),.slice none 0 0,.bool false,.string (str a.addr),.slice none 0 0] (fo3_cel _ _ _ _) 3 rfl (by omega)
  have HB:=Lib.hid (And.intro H1 hown)
  obtain⟨c0,c1,c2,c3,c4,c5,c6⟩:=H1.cells
  skip
  have hq9 : w.heap.size≤V9.heap.size:=H0.1.size
  have hB9 : V9.heap.size≤(V9.alloc (.cells #[.bool false,.string (str (num a.id)),.slice none 0 0,.bool false,.string (str (num k64)),.slice none 0 0,.bool false,.string (str a.addr),.slice none 0 0] 125)).heap.size:=by simp
  clear H0 H1 HS HC1 HC2 HC3 K0 hown hz
  generalize V9.alloc (.cells #[.bool false,.string (str (num a.id)),.slice none 0 0,.bool false,.string (str (num k64)),.slice none 0 0,.bool false,.string (str a.addr),.slice none 0 0] 125)=U at *
  generalize V9.heap.size=q9 at *
  rw [HK.out] at c6
  have HE:=Lib.hid (renc_list (HB.out.2.sl) (fun k hk=>hk.2) (by rw [← HF.out]; have:=AskP.fo_len HW.out.2.1 HW.out.1; omega))
  rw [← HF.out,show str (It.list a.fo).enc=str a.enc from rfl] at HE
  clear hk64
  go_wp2_with (go_at_call 115; refine HE.out.mono ?_; rintro e w3 ⟨rfl,h3⟩; have H3:=Lib.hid h3; clear h3)
  go_ret2
  exact⟨by rw [HO.out]; rfl,HB.out.1.1.trans (H3.out.mono HB.out.1.1.size)⟩
 ·have hk2 : k64 = 2 := by have h := HW.out.2.2.1; rw [h2] at h; have h3 : IntKind.u64.wrap 2 = 2 := by decide
                           omega
  have HF:=Lib.hid (show a.fo=(Fo.text (num a.id) (.text (num k64) (.text a.addr .nil))).app ((It.text (wordL a.slot)).fo .nil) from by unfold AskP.fo; rw [h2,hk2]; rfl)
  have HK:=Lib.hid h2
  rw [h2] at c6
  clear hk2
  generalize hst : str a.addr=y at *
  go_enter Tryz.func111,Tryz.ntmps111
  rw [h2]
  clear h2
  go_wp2_with fail
  subst hst
  clear c0 c1 c2 c3 c4 c5 c6 heq
  have e1 : askCells a=#[.int .u64 a.id,.string (str a.addr),.int .u64 (l3 a.slot : Nat),.int .u64 (l2 a.slot : Nat),.int .u64 (l1 a.slot : Nat),.int .u64 (l0 a.slot : Nat),.int .i64 2]:=by unfold askCells; rw [HK.out]
  have H0 : RAskB w a (w.alloc (.cells #[.int .u64 a.id,.string (str a.addr),.int .u64 (l3 a.slot : Nat),.int .u64 (l2 a.slot : Nat),.int .u64 (l1 a.slot : Nat),.int .u64 (l0 a.slot : Nat),.int .i64 2] 128)).drew:=by rw [← e1]; exact (RAskB.start w a).call (Below.refl _ _).drew
  clear e1
  have HS:=Lib.hid (fun (V:World) (hV:RAskB w a V)=>hV.cells)
  refine Drawn.start (fun V=>RAskB w a V) (fun _=>false) (by kernel_rfl) ?_
  refine Drawn.tk 0 (some 30) (v:=?_) rfl rfl (by kernel_rfl) rfl (fun _ _ _ h=>h) (Or.inl ⟨rfl,?_⟩) H0 ?_
  rotate_left
  ·intro W hW; have hW:=HS.out W hW; go_simp; try with_reducible rfl
  simp only [put_list,List.set]
  refine Drawn.tk 1 (some 31) (v:=?_) rfl rfl (by kernel_rfl) rfl (fun _ _ _ h=>h) (Or.inl ⟨rfl,?_⟩) H0 ?_
  rotate_left
  ·intro W hW; have hW:=HS.out W hW; go_simp; try with_reducible rfl
  simp only [put_list,List.set]
  refine Drawn.tk 3 (some 33) (v:=?_) rfl rfl (by kernel_rfl) rfl (fun _ _ _ h=>h) (Or.inl ⟨rfl,?_⟩) H0 ?_
  rotate_left
  ·intro W hW; have hW:=HS.out W hW; go_simp; try with_reducible rfl
  simp only [put_list,List.set]
  refine Drawn.tk 4 (some 34) (v:=?_) rfl rfl (by kernel_rfl) rfl (fun _ _ _ h=>h) (Or.inl ⟨rfl,?_⟩) H0 ?_
  rotate_left
  ·intro W hW; have hW:=HS.out W hW; go_simp; try with_reducible rfl
  simp only [put_list,List.set]
  refine Drawn.tk 5 (some 35) (v:=?_) rfl rfl (by kernel_rfl) rfl (fun _ _ _ h=>h) (Or.inl ⟨rfl,?_⟩) H0 ?_
  rotate_left
  ·intro W hW; have hW:=HS.out W hW; go_simp; try with_reducible rfl
  simp only [put_list,List.set]
  refine Drawn.tk 7 (some 37) (v:=?_) rfl rfl (by kernel_rfl) rfl (fun _ _ _ h=>h) (Or.inl ⟨rfl,?_⟩) H0 ?_
  rotate_left
  ·intro W hW; have hW:=HS.out W hW; go_simp; try with_reducible rfl
  simp only [put_list,List.set]
  refine Drawn.tk 8 (some 38) (v:=?_) rfl rfl (by kernel_rfl) rfl (fun _ _ _ h=>h) (Or.inl ⟨rfl,?_⟩) H0 ?_
  rotate_left
  ·intro W hW; have hW:=HS.out W hW; go_simp; try with_reducible rfl
  simp only [put_list,List.set]
  refine Drawn.only 2 (by kernel_rfl) rfl rfl (fun K hK=>?_)
  go_simp
  refine (HC1.out _).mono ?_
  rintro e V2 ⟨rfl,hb⟩
  refine hK _ _ (fun _ _=>H0.call hb) ?_
  replace H0:=H0.call hb
  clear hK K hb
  try simp only [put_list,List.set]
  refine Drawn.only 6 (by kernel_rfl) rfl rfl (fun K hK=>?_)
  go_simp
  refine (HC2.out _).mono ?_
  rintro e V6 ⟨rfl,hb⟩
  refine hK _ _ (fun _ _=>H0.call hb) ?_
  replace H0:=H0.call hb
  clear hK K hb
  try simp only [put_list,List.set]
  refine Drawn.only 9 (by kernel_rfl) rfl rfl (fun K hK=>?_)
  go_simp
  refine (HC3.out _).mono ?_
  rintro e V9 ⟨rfl,hb⟩
  refine hK _ _ (fun _ _=>H0.call hb) ?_
  replace H0:=H0.call hb
  clear hK K hb
  try simp only [put_list,List.set]
  refine Drawn.only 10 (by kernel_rfl) rfl rfl (fun K hK=>?_)
  go_simp
  refine hK _ _ (fun _ _=>H0.call ((Below.refl _ _).alloc (Nat.le_refl _) _)) ?_
  clear hK K
  try simp only [put_list,List.set]
  have H1 : RAskB w a (V9.alloc (.cells #[.bool false,.string (str (num a.id)),.slice none 0 0,.bool false,.string (str (num k64)),.slice none 0 0,.bool false,.string (str a.addr),.slice none 0 0] 125)):=H0.call ((Below.refl _ _).alloc (Nat.le_refl _) _)
  refine Drawn.tk 11 (some 4) (v:=?_) rfl rfl (by kernel_rfl) rfl (fun _ _ _ h=>h) (Or.inl ⟨rfl,?_⟩) H1 ?_
  rotate_left
  ·intro W hW; have hW:=HS.out W hW; go_simp; try with_reducible rfl
  simp only [put_list,List.set]
  refine Drawn.done (by kernel_rfl) ?_ _
  have hown:=own_litR V9 (.text (num a.id) (.text (num k64) (.text a.addr .nil))) #[.bool false,.string (str (num a.id)),.slice none 0 0,.bool false,.string (str (num k64)),.slice none 0 0,.bool false,.string (str a.addr),.slice none 0 0] (fo3_cel _ _ _ _) 3 rfl (by omega)
  have HB:=Lib.hid (And.intro H1 hown)
  obtain⟨c0,c1,c2,c3,c4,c5,c6⟩:=H1.cells
  skip
  have hq9 : w.heap.size≤V9.heap.size:=H0.1.size
  have hB9 : V9.heap.size≤(V9.alloc (.cells #[.bool false,.string (str (num a.id)),.slice none 0 0,.bool false,.string (str (num k64)),.slice none 0 0,.bool false,.string (str a.addr),.slice none 0 0] 125)).heap.size:=by simp
  clear H0 H1 HS HC1 HC2 HC3 K0 hown hz
  generalize V9.alloc (.cells #[.bool false,.string (str (num a.id)),.slice none 0 0,.bool false,.string (str (num k64)),.slice none 0 0,.bool false,.string (str a.addr),.slice none 0 0] 125)=U at *
  generalize V9.heap.size=q9 at *
  rw [HK.out] at c6
  have HE:=Lib.hid (fun (S:Nat→Prop) v W (h:SlF S ((Fo.text (num a.id) (.text (num k64) (.text a.addr .nil))).app ((It.text (wordL a.slot)).fo .nil)) v W) (hS:∀ k,S k→k<W.heap.size)=>renc_list h hS (by rw [← HF.out]; have:=AskP.fo_len HW.out.2.1 HW.out.1; omega))
  rw [← HF.out,show str (It.list a.fo).enc=str a.enc from rfl] at HE
  have HT:=Lib.hid (fun W=>rBytes_c HW.out.2.1.slot W)
  have HT2:=Lib.hid (fun W=>rtext_c (str (wordL a.slot)) W)
  unfold wordV at HT
  unfold textV at HT2
  clear hk64
  go_wp2_with (first
    | (go_at_call 114; refine (HT.out _).mono ?_; rintro e w2 ⟨rfl,h3⟩; have HM:=Lib.hid h3; clear h3)
    | (go_at_call 113; refine (HT2.out _).mono ?_; rintro e w3 ⟨rfl,h4⟩; have h3:=HM.out.trans (h4.mono HM.out.size); have hown3:=(HB.out.2.kept (fun k _ hk=>h3.block k hk) h3.size).kept (fun k _ hk=>Below.heap_alloc w3 (.cells #[.bool false,.string (str (wordL a.slot)),.slice none 0 0] 125) k hk) (by simp); have hz3:=heap_alloc_new w3 (.cells #[.bool false,.string (str (wordL a.slot)),.slice none 0 0] 125); have hbs3 : q9≤(w3.alloc (.cells #[.bool false,.string (str (wordL a.slot)),.slice none 0 0] 125)).heap.size:=(by have:=h3.size; simp; omega); have hb3:=(HB.out.1.1.trans (h3.mono HB.out.1.1.size)).alloc (Nat.le_trans HB.out.1.1.size h3.size) (.cells #[.bool false,.string (str (wordL a.slot)),.slice none 0 0] 125); have H3:=Lib.hid (And.intro hown3 (And.intro hz3 hb3)); clear h3 h4 hown3 hz3 hb3)
    | (at_builtin; refine wpList_append_itemR rfl _ _ rfl q9 (.slice (some ⟨q9,0,none⟩) 3 3) _ (.text (wordL a.slot)) false (str (wordL a.slot)) (.slice none 0 0) (fun _=>False) (by rfl) H3.out.1 (fun _ h=>h.elim) rfl ⟨[],rfl,rfl⟩ _ (by rfl) H3.out.2.1 hbs3 (by simp [Fo.len]) ?_; intro v4 W4 ho4 hg4 _; rw [← HF.out] at ho4; have hsl4:=ho4.sl; obtain⟨a4,m4,n4,rfl⟩:=hsl4.form; have hbl : Below w.heap.size w W4:=H3.out.2.2.grown hg4 H3.out.2.2.size (fun j hj=>(by have:=(H3.out.1.blk j hj).1; omega)); have H4:=Lib.hid (And.intro hsl4 hbl); clear ho4 hg4 hsl4 hbl)
    | (go_at_call 115; refine (HE.out _ _ _ H4.out.1 (fun k hk=>hk.2)).mono ?_; rintro e w5 ⟨rfl,h5⟩; have H5:=Lib.hid h5; clear h5))
  go_ret2
  exact⟨by rw [HO.out]; rfl,H4.out.2.trans (H5.out.mono H4.out.2.size)⟩
theorem rputAsk_c {a : AskP} (hw:a.Wf) (w:World) : Calls Tryz.prog 111 #[askV a] w fun e w'=>e=.returned (putAskV a)∧Below w.heap.size w w':=by
 by_cases ho : a.Ok
 ·exact rputAsk_ok hw ho w
 ·exact rputAsk_bad hw ho w
end Go.Proofs.YtekoaheiapddiaaGreat
end
