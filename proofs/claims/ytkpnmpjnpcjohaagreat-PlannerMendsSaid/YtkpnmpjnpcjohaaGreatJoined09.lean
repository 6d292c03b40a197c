import Derived.Test.YtkpnmpjnpcjohaaGreatPlnrSafe
set_option linter.unusedVariables false
set_option maxHeartbeats 400000
set_option maxRecDepth 100000
namespace Go.Proofs.YtkpnmpjnpcjohaaGreat
open ChangeShapes WideShapes ChangeAt RowKit Mem
namespace MemI
def g_O(xs ys:List Int):Bool:=decide (xs=ys)
theorem o_N{xs ys:List Int}{k:Nat}{u:Int}(h:xs.take k=ys.take k)(hx:xs[k]?=some u)(hy:ys[k]?=some u):xs.take (k+1)=ys.take (k+1):=by
 rw[List.take_add_one,List.take_add_one,h,hx,hy]
theorem t_h{xs ys:List Int}{k:Nat}{u v:Int}(h:u≠v)(hx:xs[k]?=some u)(hy:ys[k]?=some v):g_O xs ys=false:=by
 simp only[g_O,decide_eq_false_iff_not];rintro rfl;rw[hx]at hy;exact h (Option.some.inj hy)
theorem q_5(A A':Option Addr)(n c n' c':Nat)(xs ys:List Int)(B B':Nat)(w:World)(h:Ints w B A n xs)(h':Ints w B' A' n' ys):
 Calls Tryz.prog 34 #[.slice A n c,.slice A' n' c'] w (d_t w (.bool (g_O xs ys))):=by
 have hm:=h.le;have H:=Lib.hid h;have H':=Lib.hid h';have HL:=Lib.hid h.length;have HL':=Lib.hid h'.length;clear h h';by_cases hn:n=n'
 ·subst hn
  go_enter Tryz.func34,Tryz.ntmps34;go_wp2
  go_loopw [5] (fun i wr=>∃(k d:Nat),k≤n∧i=.int .i64 k∧wr=w.drewN d∧Hid (xs.take k=ys.take k)) (fun i _=>n-(intOf i).toNat)
  case atStart=>exact⟨0,0,Nat.zero_le _,rfl,rfl,rfl⟩
  case round=>
   obtain⟨k,d,hk,rfl,rfl,HT⟩:=hrel;by_cases hlt:k<n
   ·obtain⟨b,off,u,rfl,hu,hc,_,_⟩:=H.out.at_ hlt
    obtain⟨b',off',v,rfl,hv,hc',_,_⟩:=H'.out.at_ hlt;have HU:=Lib.hid hu;have HV:=Lib.hid hv;clear hu hv;by_cases huv:u=v
    ·subst huv
     have HN:Hid (xs.take (k+1)=ys.take (k+1)):=o_N HT.out HU.out HV.out;go_wp2
     go_quiet (fail)
     go_wp2
     go_roundw
     case rel=>exact⟨k+1,_,by omega,by go_num,rfl,HN⟩
     case measure=>simp[intOf];omega
    ·have HN:Hid (g_O xs ys=false):=t_h huv HU.out HV.out
     have hne:(u==v)=false:=by simpa using huv
     have hne':(u != v)=true:=by simpa using huv
     clear huv;go_wp2
     go_quiet (fail)
     go_wp2
     go_ret;exact⟨a_j HN.out.symm,_,World.drewN_drewN _ _ _⟩
   ·have HN:Hid (g_O xs ys=true):=by
     have:=HT.out;rw[List.take_of_length_le (by have:=HL.out;omega),List.take_of_length_le (by have:=HL'.out;omega)]at this;simp[g_O,this,Hid]
    go_wp2
    go_ret;exact⟨a_j HN.out.symm,_,rfl⟩
 ·have HN:Hid (g_O xs ys=false):=by
   have h1:=HL.out;have h2:=HL'.out;simp only[Hid,g_O,decide_eq_false_iff_not];rintro rfl;omega
  have hne:(n==n')=false:=by simpa using hn
  have hne2:((n:Int)==(n':Int))=false:=by simp;omega
  have hne3:((n:Int) != (n':Int))=true:=by simp;omega
  clear hn;go_enter Tryz.func34,Tryz.ntmps34;go_wp2
  go_ret;exact⟨a_j HN.out.symm,0,rfl⟩
theorem q_6(A A':Option Addr)(n c n' c':Nat)(xs ys:List Int)(B B':Nat)(w:World)(r:Bool)(h:Ints w B A n xs)(h':Ints w B' A' n' ys)(hr:g_O xs ys=r):
 Calls Tryz.prog 34 #[.slice A n c,.slice A' n' c'] w (d_t w (.bool r)):=by
 rw[← hr];exact q_5 A A' n c n' c' xs ys B B' w h h'
theorem q_7(A A':Option Addr)(n c n' c':Nat)(xs:List Int)(B B':Nat)(w:World)(h:Ints w B A n xs)(h':Ints w B' A' n' xs):
 Calls Tryz.prog 34 #[.slice A n c,.slice A' n' c'] w (d_t w (.bool true)):=
 q_6 A A' n c n' c' xs xs B B' w true h h' (by simp[g_O])
end MemI
namespace Frames
open Deep Rec FleetMath
theorem l_F:Tryz.prog.cellsOf 74=19:=by kernel_rfl
theorem q_8:Tryz.prog.bytesOf 74=152:=by kernel_rfl
section
variable {H : Type} {enc : TypeId × Value → H} {W : World}
theorem t_i{n:Nat}{cs:List Value}{y:DataW H×List MemPlace}(h:DataW.trod enc Tryz.prog W 0 (fun _=>true) true n 74 cs=some y):∃a:Pln.Ask,cs=Pln.askC a∧wfI a.id:=by
 obtain⟨xs,k,_,hl,_,hf⟩:=b_L Tryz.underlying74 h;rw[l_F]at hl;match cs,hl with
 |[c0,c1,c2,c3,c4,c5,c6,c7,c8,c9,c10,c11,c12,c13,c14,c15,c16,c17,c18],_=>
  obtain⟨z0,_,h0⟩:=hf 0 3 0 rfl;obtain⟨z1,_,h1⟩:=hf 1 3 1 rfl;obtain⟨z2,_,h2⟩:=hf 2 3 2 rfl;obtain⟨z3,_,h3⟩:=hf 3 31 3 rfl;obtain⟨z4,_,h4⟩:=hf 4 33 13 rfl;simp only[c_l,h_U,h_V]at h0 h1 h2 h3 h4;obtain⟨v0,e0,w0⟩:=c_b h0;obtain⟨v1,e1,w1⟩:=c_b h1;obtain⟨v2,e2,w2⟩:=c_b h2;obtain⟨v3,e3,w3⟩:=r_8 h3;obtain⟨v4,e4,w4⟩:=r_9 h4;simp at e0 e1 e2 e3 e4;obtain⟨p0,p1,p2,p3,p4,p5,p6,p7,p8,p9⟩:=e3;obtain⟨q0,q1,q2,q3,q4,q5⟩:=e4;subst e0 e1 e2 p0 p1 p2 p3 p4 p5 p6 p7 p8 p9 q0 q1 q2 q3 q4 q5;exact⟨⟨v0,v1,v2,v3,v4⟩,rfl,w1⟩
theorem o_O{a:Option Addr}{len cap:Nat}{d:DataW H}{p:List MemPlace}(h:DataW.Trod enc Tryz.prog W 0 (fun _=>true) true 70 (.slice a len cap) d p):
 len≤cap∧cap≤maxLen∧d_q d cap∧∃l:List Pln.Ask,Recs W W.heap.size a len 19 (Pln.asksV l)∧∀s∈l,wfI s.id:=by
 obtain⟨fuel,hf⟩:=h;obtain⟨a',len',cap',e,h1,h2,h3,l,h4,_,h6⟩:=f_P (k:=19) Pln.askC (fun x=>wfI x.id) (fun _=>rfl) (by omega) Tryz.underlying70 l_F (fun n cs y h=>t_i h) hf;simp[Value.cells]at e;obtain⟨rfl,rfl,rfl⟩:=e;exact⟨h1,h2,h3,l,h4,h6⟩
theorem m_L{ts:List TypeId}{ds:List (DataW H)}(h:(DataW.weightsEach Tryz.prog ts ds).all (·≤reachBytes)=true){j:Nat}{d:DataW H}{cap:Nat}
 (ht:ts[j]?=some 70) (hd:ds[j]?=some d) (hi:d_q d cap):cap*152≤140737488351232:=by
 have:=f_z h ht hd Tryz.underlying70 hi;rwa[q_8]at this
end
theorem _root_.Go.Proofs.YtkpnmpjnpcjohaaGreat.Pln.plannerSafe_w(x:Keep.Wd)(A:Option Addr)(n c:Nat)(l:List Pln.Ask)(W:World)(h:∃ts ds os ps,Frames.WdOk W x ts ds os∧Frames.PlnOk W x.pl.a x.pl.n x.pl.c ps)(hn:n≤c)(hr:c*152≤140737488351232)(hl:Recs W W.heap.size A n 19 (Pln.asksV l)∧∀s∈l,wfI s.id):
 Calls Tryz.prog 7 #[Keep.wdV x,.slice A n c] W fun e w'=>e=.returned (.bool true)∧Below W.heap.size W w':=by
 obtain⟨ts,ds,os,ps,h1,h2⟩:=h;exact Pln.plannerSafe_walk x A n c l ts ds os ps W h1.ts h1.ds h1.os h2.plns hl.1 hn hl.2
end Frames
end Go.Proofs.YtkpnmpjnpcjohaaGreat
