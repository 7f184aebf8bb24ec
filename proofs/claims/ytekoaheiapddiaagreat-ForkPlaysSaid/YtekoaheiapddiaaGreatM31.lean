/- Merged: Fr, Fs, Ft, Fu, Fv, Fw. -/
import Derived.Test.YtekoaheiapddiaaGreatM30
import Derived.Test.YtekoaheiapddiaaGreatM21
section
namespace Go.Proofs.YtekoaheiapddiaaGreat.Dz
open Go.RowKit
def addrP (n:Nat) : List UInt8:=if n % 5=0 then [97,97,97,97,97,97,97,97,97,97,97,97,97,97,97,97,97,97,97,97] else if n % 5=1 then [98,98,98,98,98,98,98,98,98,98,98,98,98,98,98,98,98,98,98,98] else if n % 5=2 then [99,99,99,99,99,99,99,99,99,99,99,99,99,99,99,99,99,99,99,99] else if n % 5=3 then [115,104,111,114,116] else [100,100,100,100,100,100,100,100,100,100,100,100,100,100,100,100,100,100,100,100]
set_option maxRecDepth 100000 in
theorem address_c (n:Nat) (hn:n<256) (W:World) : Calls Tryz.prog 61 #[.int .u8 n] W fun e W'=>e=.returned (.string (str (addrP n)))∧Below W.heap.size W W':=by
 obtain⟨s,hs⟩ : ∃ s,s=W.alloc (.cells #[.string ⟨#[97,97,97,97,97,97,97,97,97,97,97,97,97,97,97,97,97,97,97,97]⟩,.string ⟨#[98,98,98,98,98,98,98,98,98,98,98,98,98,98,98,98,98,98,98,98]⟩,.string ⟨#[99,99,99,99,99,99,99,99,99,99,99,99,99,99,99,99,99,99,99,99]⟩,.string ⟨#[115,104,111,114,116]⟩,.string ⟨#[100,100,100,100,100,100,100,100,100,100,100,100,100,100,100,100,100,100,100,100]⟩] 9):=⟨_,rfl⟩
 have hb : Below W.heap.size W s:=by rw [hs]; exact (Below.refl _ _).alloc (Nat.le_refl _) _
 have hg:=heap_alloc_new W (.cells #[.string ⟨#[97,97,97,97,97,97,97,97,97,97,97,97,97,97,97,97,97,97,97,97]⟩,.string ⟨#[98,98,98,98,98,98,98,98,98,98,98,98,98,98,98,98,98,98,98,98]⟩,.string ⟨#[99,99,99,99,99,99,99,99,99,99,99,99,99,99,99,99,99,99,99,99]⟩,.string ⟨#[115,104,111,114,116]⟩,.string ⟨#[100,100,100,100,100,100,100,100,100,100,100,100,100,100,100,100,100,100,100,100]⟩] 9)
 have c0:=cell_of hg 0
 have c1:=cell_of hg 1
 have c2:=cell_of hg 2
 have c3:=cell_of hg 3
 have c4:=cell_of hg 4
 rw [hs] at hb
 have HB:=Lib.hid hb
 clear hb hg hs
 simp only [List.getElem?_toArray,List.getElem?_cons_zero,List.getElem?_cons_succ] at c0 c1 c2 c3 c4
 have hk : n % 5=0∨n % 5=1∨n % 5=2∨n % 5=3∨n % 5=4:=by omega
 rcases hk with hk | hk | hk | hk | hk
 ·have hi : (n:Int) % 5=0:=by omega
  have HA:=Lib.hid (show str (addrP n)=⟨#[97,97,97,97,97,97,97,97,97,97,97,97,97,97,97,97,97,97,97,97]⟩ by unfold addrP; rw [if_pos hk]; rfl)
  rw [HA.out]
  clear hk
  go_enter Tryz.func61,Tryz.ntmps61
  go_wp2_with fail
  go_ret
  exact⟨rfl,HB.out⟩
 ·have hi : (n:Int) % 5=1:=by omega
  have HA:=Lib.hid (show str (addrP n)=⟨#[98,98,98,98,98,98,98,98,98,98,98,98,98,98,98,98,98,98,98,98]⟩ by unfold addrP; rw [if_neg (by omega),if_pos hk]; rfl)
  rw [HA.out]
  clear hk
  go_enter Tryz.func61,Tryz.ntmps61
  go_wp2_with fail
  go_ret
  exact⟨rfl,HB.out⟩
 ·have hi : (n:Int) % 5=2:=by omega
  have HA:=Lib.hid (show str (addrP n)=⟨#[99,99,99,99,99,99,99,99,99,99,99,99,99,99,99,99,99,99,99,99]⟩ by unfold addrP; rw [if_neg (by omega),if_neg (by omega),if_pos hk]; rfl)
  rw [HA.out]
  clear hk
  go_enter Tryz.func61,Tryz.ntmps61
  go_wp2_with fail
  go_ret
  exact⟨rfl,HB.out⟩
 ·have hi : (n:Int) % 5=3:=by omega
  have HA:=Lib.hid (show str (addrP n)=⟨#[115,104,111,114,116]⟩ by unfold addrP; rw [if_neg (by omega),if_neg (by omega),if_neg (by omega),if_pos hk]; rfl)
  rw [HA.out]
  clear hk
  go_enter Tryz.func61,Tryz.ntmps61
  go_wp2_with fail
  go_ret
  exact⟨rfl,HB.out⟩
 ·have hi : (n:Int) % 5=4:=by omega
  have HA:=Lib.hid (show str (addrP n)=⟨#[100,100,100,100,100,100,100,100,100,100,100,100,100,100,100,100,100,100,100,100]⟩ by unfold addrP; rw [if_neg (by omega),if_neg (by omega),if_neg (by omega),if_neg (by omega)]; rfl)
  rw [HA.out]
  clear hk
  go_enter Tryz.func61,Tryz.ntmps61
  go_wp2_with fail
  go_ret
  exact⟨rfl,HB.out⟩
def asks (a:AskP) (n:Nat) : List Nm:=(List.range n).map fun i=>({ a with id:=i+1 } : AskP).enc
end Go.Proofs.YtekoaheiapddiaaGreat.Dz
end
section
namespace Go.Proofs.YtekoaheiapddiaaGreat.Dz
open Go.RowKit
set_option maxRecDepth 100000 in
theorem eq_acc (r:ReplyP) (w:World) : (binOp .eql 82 (.agg (accC r)) (.agg (accC r))).run Tryz.prog w=.ok (.bool true) w:=by
 have u3:=Tryz.underlying41
 have a3':=Tryz.isAgg41
 have z3:=Tryz.sizeOf41
 have u9:=Tryz.underlying9
 have a9:=Tryz.isAgg9
 have z9:=Tryz.sizeOf9
 have uW:=Tryz.underlying61
 have aW:=Tryz.isAgg61
 have zW:=Tryz.sizeOf61
 have hS : Tryz.prog.underlying 82=some (.struct (Tryz.prog.fieldsOf 82)):=by kernel_rfl
 have hp : Tryz.prog.stoodInHeld 82=false:=by kernel_rfl
 have hSA : Tryz.prog.underlying 82=some (.struct (Tryz.prog.fieldsOf 82)):=by kernel_rfl
 have hpA : Tryz.prog.stoodInHeld 82=false:=by kernel_rfl
 have hSW : Tryz.prog.underlying 61=some (.struct (Tryz.prog.fieldsOf 61)):=by kernel_rfl
 have hpW : Tryz.prog.stoodInHeld 61=false:=by kernel_rfl
 unfold accC
 rw [run_eql_struct,show (10000:Nat)=9999+1 from rfl,run_equalIn_agg w 9999 82 _ _ hS hp]
 simp only [Program.fieldsOf,Tryz.underlying82]
 go_simp
end Go.Proofs.YtekoaheiapddiaaGreat.Dz
end
section
namespace Go.Proofs.YtekoaheiapddiaaGreat.Dz
open Go.RowKit
end Go.Proofs.YtekoaheiapddiaaGreat.Dz
end
section
namespace Go.Proofs.YtekoaheiapddiaaGreat.Dz
open Go.RowKit
end Go.Proofs.YtekoaheiapddiaaGreat.Dz
namespace Go.Proofs.YtekoaheiapddiaaGreat
theorem u16_of {n : Int} (h:(Lit.int .u16 n).wf=true) : ∃ k : Nat,n=(k:Int)∧k<65536:=by
 have h' : 0≤n∧n≤65535:=by simpa [Lit.wf,IntKind.min,IntKind.max,IntKind.signed,IntKind.bits] using h
 exact⟨n.toNat,by omega,by omega⟩
end Go.Proofs.YtekoaheiapddiaaGreat
end
section
namespace Go.Proofs.YtekoaheiapddiaaGreat.Dz
open Go.RowKit
end Go.Proofs.YtekoaheiapddiaaGreat.Dz
end
section
namespace Go.Proofs.YtekoaheiapddiaaGreat.Dz
open Go.RowKit
section
variable {p q : Pd} {c c2 : Cl} {name : Nm} {d N N' : Nat} {F F' : Nat→Prop} {b m b2 m2 : Nat} {sv av sv2 av2 : Value} {W V V' : World} {L : List (Nat×Obj)}
theorem Am.again {W2 : World} (h:On p d N F V) (h3:CAt c2 name d (V.heap.size+1) V.heap.size (.slice none 0 0) (.slice none 0 0) W2) (h4:Below V.heap.size V W2) :
  Am p c2 name d N F (V.heap.size+1) V.heap.size (.slice none 0 0) (.slice none 0 0) V F [] W2:=by
 refine⟨⟨h.below h4,h3,fun k hk hf=>?_⟩,⟨h4.os,h4.tape,h4.output,h4.size,fun k hk _=>h4.block k hk,fun k hk=>?_⟩,by simp⟩
 ·have:=h.lt hk
  rcases hf with rfl | rfl | hf | hf
  ·omega
  ·omega
  ·cases hf
  ·cases hf
 ·rcases hk with hk | rfl | rfl | hk | hk
  ·exact Or.inl hk
  ·exact Or.inr (by omega)
  ·exact Or.inr (Nat.le_refl _)
  ·cases hk
  ·cases hk
end
end Go.Proofs.YtekoaheiapddiaaGreat.Dz
end
