import Derived.Lib.AppendZeros
import Derived.Test.YtkpnmpjnpcjohaaGreatJoined11
set_option linter.unusedVariables false
set_option maxHeartbeats 4000000
set_option maxRecDepth 100000
namespace Go.Proofs.YtkpnmpjnpcjohaaGreat
open ChangeShapes WideShapes ChangeAt RowKit Mem FleetMath Rec
namespace Slack
structure Part where
 at_:Option Addr
 len:Nat
 cap:Nat
 vs:List Value
abbrev Part.val(p:Part):Value:=.slice p.at_ p.len p.cap
def lens(ps:List Part):Nat:=(ps.map (·.len)).sum
def e_I(ps:List Part):List Value:=ps.flatMap (·.vs)
theorem c_4(ps:List Part)(p:Part):lens (ps++[p])=lens ps+p.len:=by simp[lens]
theorem h_F(ps:List Part)(p:Part):e_I (ps++[p])=e_I ps++p.vs:=by simp[e_I]
theorem c_5{ps:List Part}{k:Nat}{p:Part}(h:ps[k]?=some p):ps.take (k+1)=ps.take k++[p]:=by
 rw[List.take_add_one,h];rfl
theorem j_N(ps:List Part)(k:Nat):lens (ps.take k)≤lens ps:=by
 have h:=congrArg List.sum (List.take_append_drop k (ps.map (·.len)));rw[List.sum_append,←List.map_take]at h;unfold lens;omega
def r_Z(w:World)(B k:Nat)(ps:List Part):Prop:=∀p∈ps,Recs w B p.at_ p.len k p.vs∧∀u∈p.vs,u.oneCell'=true
theorem j_O{w:World}{base k n cap:Nat}{e:TypeId}{cs:Array Value}(hb:base≤w.heap.size)(hc:cs.size=cap*k)(hm:cap≤maxLen):OwnK (w.alloc (.cells cs e)) base e k (.slice (some ⟨w.heap.size,0,none⟩) 0 cap) 0 []:=
 ⟨⟨by simp,.inr ⟨w.heap.size,cap,cs,rfl,hb,heap_alloc_new w _,Nat.zero_le _,hm,hc,by simp⟩⟩,Nat.zero_le _⟩
theorem q_o(n:Nat)(w:World)(hr:n*16≤140737488355328):
 Calls Tryz.prog 243 #[.slice none 0 0,.int .i64 n] w (c_X w 48 2 0 []):=by
 have hn63:(n:Int)≤9223372036854775807:=by omega
 go_enter Tryz.func243,Tryz.ntmps243;rcases Nat.eq_zero_or_pos n with h0|h0
 ·subst h0
  go_wp2_with fail
  go_ret;exact⟨_,rfl,Below.refl _ _,OwnK.nil _ _ _ _⟩
 ·obtain⟨i,hi,hz0,hz1,hz2⟩:=info_parts e_4
  have hrun:=Lib.hid (Lib.run_append_nil_zeros (P:=Tryz.prog) w 35 3 35 48 i _ .i64 .i64 Tryz.underlying35 Tryz.underlying3 hi hz0 n h0 (by omega) hn63 (by rw[hz2];omega));have hcap:n≤grownCap w n 0 48:=grownCap_ge _ _ _ _;have hcm:grownCap w n 0 48≤maxLen:=grownCap_le_maxLen _ _ _ _ (by unfold maxLen;omega)
  have HOWN:=Lib.hid (j_O (w:=w.drew) (base:=w.heap.size) (k:=2) (n:=0) (e:=48) (cap:=grownCap w n 0 48) (cs:=Builtin.zeroCells (Value.cells (.agg #[.int .i64 0,.bool false])) n++Builtin.zeroCells (Value.cells (.agg #[.int .i64 0,.bool false])) (grownCap w n 0 48-n)) (Nat.le_refl _) (by
   rw[Array.size_append,size_zeroCells,size_zeroCells,←Nat.add_mul,Nat.add_sub_cancel' hcap];rfl) hcm)
  have HBEL:Hid (Below w.heap.size w (w.drew.alloc (.cells (Builtin.zeroCells (Value.cells (.agg #[.int .i64 0,.bool false])) n++Builtin.zeroCells (Value.cells (.agg #[.int .i64 0,.bool false])) (grownCap w n 0 48-n)) 48))):=(Below.refl _ _).drew.alloc (Nat.le_refl _) _;obtain⟨gc,hgc⟩:∃c,grownCap w n 0 48=c:=⟨_,rfl⟩;obtain⟨w1,hw1⟩:∃u,w.drew.alloc (.cells (Builtin.zeroCells (Value.cells (.agg #[.int .i64 0,.bool false])) n++Builtin.zeroCells (Value.cells (.agg #[.int .i64 0,.bool false])) (grownCap w n 0 48-n)) 48)=u:=⟨_,rfl⟩;rw[hgc]at hcap hcm
  have HR:Hid ((Builtin.append_ #[35,3] 35 #[.slice none 0 0,.int .i64 n]).run Tryz.prog w=.ok (.slice (some ⟨w.heap.size,0,none⟩) n gc) w1):=by
   have:=hrun.out;rw[hgc]at this;rw[hgc]at hw1;rw[← hw1];exact this
  have HO:Hid (OwnK w1 w.heap.size 48 2 (.slice (some ⟨w.heap.size,0,none⟩) 0 gc) 0 []):=by
   have:=HOWN.out;rw[← hw1,←hgc];exact this
  have HB:Hid (Below w.heap.size w w1):=by rw[← hw1];exact HBEL.out
  clear hw1 HOWN HBEL hrun hgc hi hz0 hz1 hz2;have hpos:(0:Int)<(n:Int):=by omega
  go_wp2_with (at_builtin;refine Lib.wpList_append_run _ rfl _ _ _ _ rfl _ _ rfl rfl _ _ HR.out ?_)
  go_ret;exact⟨_,rfl,HB.out,HO.out⟩
theorem l_t(g:Nat)(t:TypeId)(m c:Nat)(ps:List Part)(w:World)(hb:Blk w g t (ps.map Part.val))(hm:ps.length=m)(hmm:m≤64)(hp:r_Z w w.heap.size 2 ps)(hr:lens ps*16≤140737488355328):
 Calls Tryz.prog 215 #[.slice (some ⟨g,0,none⟩) m c] w (c_X w 48 2 (lens ps) (e_I ps)):=by
 have HPS:=Lib.hid hp;have HBK:=Lib.hid hb;have HTK:=Lib.hid (j_N ps);have HM:=Lib.hid hm;have HGT:Hid (g<w.heap.size):=hb.lt;clear hp hb hm;go_enter Tryz.func215,Tryz.ntmps215;go_wp2_with fail
 go_loopw [3,11] (fun sv iv wr=>∃(k s:Nat),k≤m∧sv=.int .i64 (s:Int)∧iv=.int .i64 k∧w=wr∧Hid (s=lens (ps.take k))) (fun _ iv _=>m-(intOf iv).toNat)
 case atStart=>exact⟨0,0,Nat.zero_le _,rfl,rfl,rfl,rfl⟩
 case round=>
  obtain⟨k,s,hk,rfl,rfl,rfl,HS⟩:=hrel;by_cases hlt:k<m
  ·obtain⟨p,hpk⟩:∃p,ps[k]?=some p:=⟨_,List.getElem?_eq_getElem (by have:=HM.out;omega)⟩
   have c0:w.cell? ⟨g,k,none⟩=some p.val:=HBK.out.cell (by rw[List.getElem?_map,hpk];rfl);obtain⟨s2,hs2⟩:∃s2,s+p.len=s2:=⟨_,rfl⟩
   have HS2:Hid (s2=lens (ps.take (k+1))):=by
    show _=_;rw[c_5 hpk,c_4,←hs2,HS.out]
   have hs3:s2≤140737488355328:=by
    have:=HTK.out (k+1);rw[← HS2.out]at this;omega
   have hki:(k:Int)<(m:Int):=by omega
   have hsum:(s:Int)+(p.len:Int)=(s2:Int):=by omega
   have hs4:(s2:Int)≤140737488355328:=by omega
   clear hpk hs2 hs3;go_wp2_with fail
   go_roundw
   case rel=>exact⟨k+1,s2,by omega,by go_num,by go_num,trivial,HS2⟩
   case measure=>simp[intOf];omega
  ·have e:m=k:=by omega
   subst e
   have HS2:Hid (s=lens ps):=by
    show _=_;rw[HS.out,List.take_of_length_le (by have:=HM.out;omega)]
   clear HS;rw[HS2.out];clear HS2;go_wp2_with fail
   refine(q_o (lens ps) _ hr).mono ?_;rintro e w1 ⟨v1,rfl,hb1,ho1⟩;have HB1:=Lib.hid hb1;have HO1:=Lib.hid ho1;clear hb1 ho1;go_wp2_with fail
   go_loopw [6,27] (fun vv iv wr=>∃k:Nat,k≤m∧iv=.int .i64 k∧Hid (Below w.heap.size w wr)∧Hid (OwnK wr w.heap.size 48 2 vv (lens (ps.take k)) (e_I (ps.take k)))) (fun _ iv _=>m-(intOf iv).toNat)
   case atStart=>exact⟨0,Nat.zero_le _,rfl,HB1,HO1⟩
   case round=>
    clear HB1 HO1;obtain⟨k,hk,rfl,HB,HO⟩:=hrel;by_cases hlt:k<m
    ·obtain⟨p,hpk⟩:∃p,ps[k]?=some p:=⟨_,List.getElem?_eq_getElem (by have:=HM.out;omega)⟩
     have c0:wr.cell? ⟨g,k,none⟩=some p.val:=(Blk.below HBK.out HB.out HGT.out).cell (by rw[List.getElem?_map,hpk];rfl);have hs2:=HTK.out (k+1);rw[c_5 hpk,c_4]at hs2;have HP2:Hid (Recs wr w.heap.size p.at_ p.len 2 p.vs):=(HPS.out p (List.mem_of_getElem? hpk)).1.keep HB.out;have HP3:Hid (∀ u∈p.vs,u.oneCell'=true):=(HPS.out p (List.mem_of_getElem? hpk)).2;have HK:=Lib.hid hpk;clear hpk;go_wp2_with (at_builtin;refine a_T (o:=⟨some 33,_,_,_,_,_⟩) rfl (.tmp 31) (.tmp 32) Tryz.underlying35 e_4 rfl (by decide) rfl HO.out rfl HP2.out rfl HP3.out (by unfold maxLen;omega) (by omega) HB.out HB.out.size HB.out.size (Nat.le_refl _) ?_;intro vB wB HO2 HB2 HG2)
     go_roundw
     case rel=>exact⟨k+1,by omega,by go_num,HB2,by show OwnK _ _ _ _ _ _ _;rw[c_5 HK.out,c_4,h_F];exact HO2.out⟩
     case measure=>simp[intOf];omega
    ·have e:k=m:=by omega
     subst e
     have HO2:Hid (OwnK wr w.heap.size 48 2 u6 (lens ps) (e_I ps)):=by
      have:=HO.out;rw[List.take_of_length_le (by have:=HM.out;omega)]at this;exact this
     clear HO;go_wp2_with fail
     go_ret;exact⟨_,rfl,HB.out,HO2.out⟩
theorem q_p(n:Nat)(w:World)(hr:n*80≤140737488355328):
 Calls Tryz.prog 241 #[.slice none 0 0,.int .i64 n] w (c_X w 31 10 0 []):=by
 have hn63:(n:Int)≤9223372036854775807:=by omega
 go_enter Tryz.func241,Tryz.ntmps241;rcases Nat.eq_zero_or_pos n with h0|h0
 ·subst h0
  go_wp2_with fail
  go_ret;exact⟨_,rfl,Below.refl _ _,OwnK.nil _ _ _ _⟩
 ·obtain⟨i,hi,hz0,hz1,hz2⟩:=info_parts b_R
  have hrun:=Lib.hid (Lib.run_append_nil_zeros (P:=Tryz.prog) w 40 3 40 31 i _ .i64 .i64 Tryz.underlying40 Tryz.underlying3 hi hz0 n h0 (by omega) hn63 (by rw[hz2];omega));have hcap:n≤grownCap w n 0 31:=grownCap_ge _ _ _ _;have hcm:grownCap w n 0 31≤maxLen:=grownCap_le_maxLen _ _ _ _ (by unfold maxLen;omega)
  have HOWN:=Lib.hid (j_O (w:=w.drew) (base:=w.heap.size) (k:=10) (n:=0) (e:=31) (cap:=grownCap w n 0 31) (cs:=Builtin.zeroCells (Value.cells (.agg #[.int .i64 0,.int .i64 0,.int .i64 0,.int .i64 0,.int .i64 0,.int .i64 0,.int .i64 0,.int .i64 0,.int .i64 0,.int .i64 0])) n++Builtin.zeroCells (Value.cells (.agg #[.int .i64 0,.int .i64 0,.int .i64 0,.int .i64 0,.int .i64 0,.int .i64 0,.int .i64 0,.int .i64 0,.int .i64 0,.int .i64 0])) (grownCap w n 0 31-n)) (Nat.le_refl _) (by
   rw[Array.size_append,size_zeroCells,size_zeroCells,←Nat.add_mul,Nat.add_sub_cancel' hcap];rfl) hcm)
  have HBEL:Hid (Below w.heap.size w (w.drew.alloc (.cells (Builtin.zeroCells (Value.cells (.agg #[.int .i64 0,.int .i64 0,.int .i64 0,.int .i64 0,.int .i64 0,.int .i64 0,.int .i64 0,.int .i64 0,.int .i64 0,.int .i64 0])) n++Builtin.zeroCells (Value.cells (.agg #[.int .i64 0,.int .i64 0,.int .i64 0,.int .i64 0,.int .i64 0,.int .i64 0,.int .i64 0,.int .i64 0,.int .i64 0,.int .i64 0])) (grownCap w n 0 31-n)) 31))):=(Below.refl _ _).drew.alloc (Nat.le_refl _) _;obtain⟨gc,hgc⟩:∃c,grownCap w n 0 31=c:=⟨_,rfl⟩;obtain⟨w1,hw1⟩:∃u,w.drew.alloc (.cells (Builtin.zeroCells (Value.cells (.agg #[.int .i64 0,.int .i64 0,.int .i64 0,.int .i64 0,.int .i64 0,.int .i64 0,.int .i64 0,.int .i64 0,.int .i64 0,.int .i64 0])) n++Builtin.zeroCells (Value.cells (.agg #[.int .i64 0,.int .i64 0,.int .i64 0,.int .i64 0,.int .i64 0,.int .i64 0,.int .i64 0,.int .i64 0,.int .i64 0,.int .i64 0])) (grownCap w n 0 31-n)) 31)=u:=⟨_,rfl⟩;rw[hgc]at hcap hcm
  have HR:Hid ((Builtin.append_ #[40,3] 40 #[.slice none 0 0,.int .i64 n]).run Tryz.prog w=.ok (.slice (some ⟨w.heap.size,0,none⟩) n gc) w1):=by
   have:=hrun.out;rw[hgc]at this;rw[hgc]at hw1;rw[← hw1];exact this
  have HO:Hid (OwnK w1 w.heap.size 31 10 (.slice (some ⟨w.heap.size,0,none⟩) 0 gc) 0 []):=by
   have:=HOWN.out;rw[← hw1,←hgc];exact this
  have HB:Hid (Below w.heap.size w w1):=by rw[← hw1];exact HBEL.out
  clear hw1 HOWN HBEL hrun hgc hi hz0 hz1 hz2;have hpos:(0:Int)<(n:Int):=by omega
  go_wp2_with (at_builtin;refine Lib.wpList_append_run _ rfl _ _ _ _ rfl _ _ rfl rfl _ _ HR.out ?_)
  go_ret;exact⟨_,rfl,HB.out,HO.out⟩
theorem l_u(g:Nat)(t:TypeId)(m c:Nat)(ps:List Part)(w:World)(hb:Blk w g t (ps.map Part.val))(hm:ps.length=m)(hmm:m≤64)(hp:r_Z w w.heap.size 10 ps)(hr:lens ps*80≤140737488355328):
 Calls Tryz.prog 212 #[.slice (some ⟨g,0,none⟩) m c] w (c_X w 31 10 (lens ps) (e_I ps)):=by
 have HPS:=Lib.hid hp;have HBK:=Lib.hid hb;have HTK:=Lib.hid (j_N ps);have HM:=Lib.hid hm;have HGT:Hid (g<w.heap.size):=hb.lt;clear hp hb hm;go_enter Tryz.func212,Tryz.ntmps212;go_wp2_with fail
 go_loopw [3,11] (fun sv iv wr=>∃(k s:Nat),k≤m∧sv=.int .i64 (s:Int)∧iv=.int .i64 k∧w=wr∧Hid (s=lens (ps.take k))) (fun _ iv _=>m-(intOf iv).toNat)
 case atStart=>exact⟨0,0,Nat.zero_le _,rfl,rfl,rfl,rfl⟩
 case round=>
  obtain⟨k,s,hk,rfl,rfl,rfl,HS⟩:=hrel;by_cases hlt:k<m
  ·obtain⟨p,hpk⟩:∃p,ps[k]?=some p:=⟨_,List.getElem?_eq_getElem (by have:=HM.out;omega)⟩
   have c0:w.cell? ⟨g,k,none⟩=some p.val:=HBK.out.cell (by rw[List.getElem?_map,hpk];rfl);obtain⟨s2,hs2⟩:∃s2,s+p.len=s2:=⟨_,rfl⟩
   have HS2:Hid (s2=lens (ps.take (k+1))):=by
    show _=_;rw[c_5 hpk,c_4,←hs2,HS.out]
   have hs3:s2≤140737488355328:=by
    have:=HTK.out (k+1);rw[← HS2.out]at this;omega
   have hki:(k:Int)<(m:Int):=by omega
   have hsum:(s:Int)+(p.len:Int)=(s2:Int):=by omega
   have hs4:(s2:Int)≤140737488355328:=by omega
   clear hpk hs2 hs3;go_wp2_with fail
   go_roundw
   case rel=>exact⟨k+1,s2,by omega,by go_num,by go_num,trivial,HS2⟩
   case measure=>simp[intOf];omega
  ·have e:m=k:=by omega
   subst e
   have HS2:Hid (s=lens ps):=by
    show _=_;rw[HS.out,List.take_of_length_le (by have:=HM.out;omega)]
   clear HS;rw[HS2.out];clear HS2;go_wp2_with fail
   refine(q_p (lens ps) _ hr).mono ?_;rintro e w1 ⟨v1,rfl,hb1,ho1⟩;have HB1:=Lib.hid hb1;have HO1:=Lib.hid ho1;clear hb1 ho1;go_wp2_with fail
   go_loopw [6,27] (fun vv iv wr=>∃k:Nat,k≤m∧iv=.int .i64 k∧Hid (Below w.heap.size w wr)∧Hid (OwnK wr w.heap.size 31 10 vv (lens (ps.take k)) (e_I (ps.take k)))) (fun _ iv _=>m-(intOf iv).toNat)
   case atStart=>exact⟨0,Nat.zero_le _,rfl,HB1,HO1⟩
   case round=>
    clear HB1 HO1;obtain⟨k,hk,rfl,HB,HO⟩:=hrel;by_cases hlt:k<m
    ·obtain⟨p,hpk⟩:∃p,ps[k]?=some p:=⟨_,List.getElem?_eq_getElem (by have:=HM.out;omega)⟩
     have c0:wr.cell? ⟨g,k,none⟩=some p.val:=(Blk.below HBK.out HB.out HGT.out).cell (by rw[List.getElem?_map,hpk];rfl);have hs2:=HTK.out (k+1);rw[c_5 hpk,c_4]at hs2;have HP2:Hid (Recs wr w.heap.size p.at_ p.len 10 p.vs):=(HPS.out p (List.mem_of_getElem? hpk)).1.keep HB.out;have HP3:Hid (∀ u∈p.vs,u.oneCell'=true):=(HPS.out p (List.mem_of_getElem? hpk)).2;have HK:=Lib.hid hpk;clear hpk;go_wp2_with (at_builtin;refine a_T (o:=⟨some 33,_,_,_,_,_⟩) rfl (.tmp 31) (.tmp 32) Tryz.underlying40 b_R rfl (by decide) rfl HO.out rfl HP2.out rfl HP3.out (by unfold maxLen;omega) (by omega) HB.out HB.out.size HB.out.size (Nat.le_refl _) ?_;intro vB wB HO2 HB2 HG2)
     go_roundw
     case rel=>exact⟨k+1,by omega,by go_num,HB2,by show OwnK _ _ _ _ _ _ _;rw[c_5 HK.out,c_4,h_F];exact HO2.out⟩
     case measure=>simp[intOf];omega
    ·have e:k=m:=by omega
     subst e
     have HO2:Hid (OwnK wr w.heap.size 31 10 u6 (lens ps) (e_I ps)):=by
      have:=HO.out;rw[List.take_of_length_le (by have:=HM.out;omega)]at this;exact this
     clear HO;go_wp2_with fail
     go_ret;exact⟨_,rfl,HB.out,HO2.out⟩
theorem f_o{p:Operand}{o:Oper}{a:Act}{u:World}{x:Stp}(h:o.op=.buildSlice 35 1 #[(0,p)])(hp:a.eval p=stpV x):(execOp a.eval o).run Tryz.prog u=.ok (.value (.slice (some ⟨u.heap.size,0,none⟩) 1 1)) (u.alloc (.cells #[.int .i64 x.ord,.bool x.drop] 48)):=by
 obtain⟨ρ,hρ⟩:∃ρ,a.eval=ρ:=⟨_,rfl⟩;rw[hρ]at hp ⊢;unfold execOp;rw[h];simp[go_sem,hp]
abbrev sl3(p:Option Addr×Nat×Nat):Value:=.slice p.1 p.2.1 p.2.2
theorem q_q{p0 p1 p2 p3 p4:Operand}{v0 v1 v2 v3 v4:Option Addr×Nat×Nat}{o:Oper}{a:Act}{u:World}(h:o.op=.buildSlice 305 5 #[(0,p0),(1,p1),(2,p2),(3,p3),(4,p4)])(h0:a.eval p0=sl3 v0)(h1:a.eval p1=sl3 v1)(h2:a.eval p2=sl3 v2)(h3:a.eval p3=sl3 v3)(h4:a.eval p4=sl3 v4):
 (execOp a.eval o).run Tryz.prog u=.ok (.value (.slice (some ⟨u.heap.size,0,none⟩) 5 5)) (u.alloc (.cells #[sl3 v0,sl3 v1,sl3 v2,sl3 v3,sl3 v4] 35)):=by
 obtain⟨ρ,hρ⟩:∃ρ,a.eval=ρ:=⟨_,rfl⟩;rw[hρ]at h0 h1 h2 h3 h4 ⊢;unfold execOp;rw[h];simp[go_sem,h0,h1,h2,h3,h4]
theorem n_S{o:Oper}{a:Act}{u:World}{f:Nat}{ts:Array TypeId}{x:Operand}{v:Value}(h:o.op=.call {callee:=.value (.func f),args:=#[x],argTypes:=ts })(h1:a.eval x=v)(hf:(callFunc f #[v]).run Tryz.prog u=.ok (.enter f #[v]) u):
 (execOp a.eval o).run Tryz.prog u=.ok (.enter f #[v]) u:=by
 have hf':a.eval (.func f)=.func (.func f) #[] #[]:=rfl;obtain⟨ρ,hρ⟩:∃ρ,a.eval=ρ:=⟨_,rfl⟩;rw[hρ]at h1 hf' ⊢;unfold execOp;rw[h];simp[go_sem,hf',h1,hf]
def i_u(base:Nat)(A:Option Addr)(n c:Nat)(stops:List Stp)(o:Int)(i j:Nat)(k:Nat)(v:Value)(D:Nat→Prop)(u:World):Prop:=
 match k with
 |0=>pureF (fun v=>v=.slice A n c) v D
 |1=>pureF (fun v=>v=.int .i64 (i:Int)) v D
 |2=>pureF (fun v=>v=sl3 (partAt A 0 c,i-0,c-0)) v D
 |3=>pureF (fun v=>v=stpV ⟨o,false⟩) v D
 |4=>blkF (fun g=>.slice (some ⟨g,0,none⟩) 1 1) 48 [.int .i64 o,.bool false] v D u
 |5=>pureF (fun v=>v=.slice A n c) v D
 |6=>pureF (fun v=>v=.int .i64 (i:Int)) v D
 |7=>pureF (fun v=>v=.int .i64 (j:Int)) v D
 |8=>pureF (fun v=>v=sl3 (partAt A i c,j-i,c-i)) v D
 |9=>pureF (fun v=>v=stpV ⟨o,true⟩) v D
 |10=>blkF (fun g=>.slice (some ⟨g,0,none⟩) 1 1) 48 [.int .i64 o,.bool true] v D u
 |11=>pureF (fun v=>v=.slice A n c) v D
 |12=>pureF (fun v=>v=.int .i64 (j:Int)) v D
 |13=>pureF (fun v=>v=sl3 (partAt A j c,n-j,c-j)) v D
 |14=>∃g ga gb,v=.slice (some ⟨g,0,none⟩) 5 5∧Blk u g 35 [sl3 (partAt A 0 c,i-0,c-0),sl3 (some ⟨ga,0,none⟩,1,1),sl3 (partAt A i c,j-i,c-i),sl3 (some ⟨gb,0,none⟩,1,1),sl3 (partAt A j c,n-j,c-j)]∧Blk u ga 48 [.int .i64 o,.bool false]∧Blk u gb 48 [.int .i64 o,.bool true]∧∀b,D b↔b=g∨b=ga∨b=gb
 |15=>ownF base 2 48 (n+2) (a_D (putM stops o i j)) v D u
 |16=>ownF base 2 48 (n+2) (a_D (putM stops o i j)) v D u
 |_=>pureF (fun _=>True) v D
def t_F(base:Nat)(A:Option Addr)(n c:Nat)(stops:List Stp)(o:Int)(i j:Nat):RF:=
 ⟨fun k=>[28,29,30,31,32,33,34,35,36,37,38,39,40,41,42,43,8].getD k 0,fun k=>if k=4 then some 14 else if k=10 then some 14 else if k=15 then some 16 else none,i_u base A n c stops o i j⟩
theorem s_6{base:Nat}{A:Option Addr}{n c:Nat}{stops:List Stp}{o:Int}{i j:Nat}(k:Nat)(v:Value)(D:Nat→Prop)(u u':World)(h:i_u base A n c stops o i j k v D u)(hk:∀b,D b→u'.heap[b]?=u.heap[b]?):
 i_u base A n c stops o i j k v D u':=by
 revert h;unfold i_u;split<;>intro h<;>first|exact h|exact ownF.mon h hk|exact blkF.mon h hk|skip
 obtain⟨g,ga,gb,e,h1,h2,h3,hd⟩:=h;exact⟨g,ga,gb,e,(hk g ((hd g).2 (.inl rfl))).trans h1,(hk ga ((hd ga).2 (.inr (.inl rfl)))).trans h2,(hk gb ((hd gb).2 (.inr (.inr rfl)))).trans h3,hd⟩
structure PB(w:World)(o:Int)(u:World):Prop where
 old:Below w.heap.size w u
 pick:Blk u w.heap.size 48 [.int .i64 o,.bool false]
 drop:Blk u (w.heap.size+1) 48 [.int .i64 o,.bool true]
theorem e_J{u:World}{g:Nat}{x:Int}{b:Bool}(h:Blk u g 48 [.int .i64 x,.bool b]):(Instr.loadAt 48 (.pointer (some ⟨g,0,none⟩))).run Tryz.prog u=.ok (stpV ⟨x,b⟩) u:=by
 have c0:=h.cell (i:=0) rfl;have c1:=h.cell (i:=1) rfl;simp[go_sem,c0,c1]
theorem newp{R:RF}{w0 u:World}{D:Nat→Nat→Prop}{i:Nat}{v:Value}{ob:Obj}(ho:Below w0.heap.size w0 u)(hf:R.fact i v (fun b=>b=u.heap.size) (u.alloc ob)):RPostV R w0 i u D v (u.alloc ob) (fun b=>b=u.heap.size):=
 ⟨ho.alloc ho.size _,by simp,fun b hlt _=>Below.heap_alloc u ob b hlt,fun b hd=>.inr (by subst hd;simp),hf⟩
theorem ownp{R:RF}{w0 u u':World}{D:Nat→Nat→Prop}{k m i:Nat}{e:TypeId}{v:Value}{vs:List Value}(ho:Below w0.heap.size w0 u)(hb:Below u.heap.size u u')(hv:OwnK u' u.heap.size e k v m vs)(hf:R.fact i v (fun b=>v.ownBlock=some b) u'):RPostV R w0 i u D v u' (fun b=>v.ownBlock=some b):=
 ⟨ho.trans (hb.mono ho.size),hb.size,fun b hlt _=>hb.block b hlt,fun b hd=>.inr (hv.1.lt b hd),hf⟩
def c_o(A:Option Addr)(n c:Nat)(stops:List Stp)(o:Int)(i j ga gb:Nat):List Part:=
 [⟨partAt A 0 c,i-0,c-0,a_D ((stops.drop 0).take (i-0))⟩,⟨some ⟨ga,0,none⟩,1,1,[.int .i64 o,.bool false]⟩,⟨partAt A i c,j-i,c-i,a_D ((stops.drop i).take (j-i))⟩,⟨some ⟨gb,0,none⟩,1,1,[.int .i64 o,.bool true]⟩,⟨partAt A j c,n-j,c-j,a_D ((stops.drop j).take (n-j))⟩]
section
variable {A : Option Addr} {n c i j ga gb : Nat} {stops : List Stp} {o : Int}
theorem j_P(hij:i≤j)(hj:j≤n):lens (c_o A n c stops o i j ga gb)=n+2:=by
 simp only[c_o,lens,List.map_cons,List.map_nil,List.sum_cons,List.sum_nil];omega
theorem j_Q(hl:stops.length=n)(hij:i≤j)(hj:j≤n):e_I (c_o A n c stops o i j ga gb)=a_D (putM stops o i j):=by
 have e:a_D (stops.drop j)=a_D ((stops.drop j).take (n-j)):=by rw[List.take_of_length_le (by rw[List.length_drop];omega)]
 simp only[c_o,e_I,List.flatMap_cons,List.flatMap_nil,putM,f_q,List.drop_zero,Nat.sub_zero,List.append_nil];rw[← e];simp[a_D]
theorem l_6{u:World}{g:Nat}{x:Int}{b:Bool}(h:Blk u g 48 [.int .i64 x,.bool b]):Recs u u.heap.size (some ⟨g,0,none⟩) 1 2 [.int .i64 x,.bool b]:=
 ⟨rfl,by unfold maxLen;omega,fun _=>⟨g,0,rfl,h.lt,fun p y hy=>by rw[Nat.zero_add];exact h.cell hy⟩⟩
theorem i_v{u:World}(hs:Stps u u.heap.size A n stops)(hcc:n≤c)(hij:i≤j)(hj:j≤n)(ha:Blk u ga 48 [.int .i64 o,.bool false])(hb:Blk u gb 48 [.int .i64 o,.bool true]):r_Z u u.heap.size 2 (c_o A n c stops o i j ga gb):=by
 intro p hp;simp only[c_o,List.mem_cons,List.not_mem_nil,or_false]at hp;rcases hp with rfl|rfl|rfl|rfl|rfl
 ·exact⟨Stps.part hs (Nat.zero_le _) (by omega) hcc,g_G _⟩
 ·exact⟨l_6 ha,o_P o false⟩
 ·exact⟨Stps.part hs hij hj hcc,g_G _⟩
 ·exact⟨l_6 hb,o_P o true⟩
 ·exact⟨Stps.part hs hj (Nat.le_refl _) hcc,g_G _⟩
end
theorem r_0(A:Option Addr)(n c:Nat)(stops:List Stp)(o:Int)(i j:Nat)(w:World)(hs:Stps w w.heap.size A n stops)(hcc:n≤c)(hij:i≤j)(hj:j≤n)(hr:n*16≤140737488351232):
 Calls Tryz.prog 157 #[.slice A n c,.int .i64 o,.int .i64 i,.int .i64 j] w (c_X w 48 2 (n+2) (a_D (putM stops o i j))):=by
 have HST:=Lib.hid hs;have HL:=Lib.hid hs.length;have hm:=Recs.le hs;clear hs;have q1:¬((i:Int)<0):=by omega
 have q2:¬((j:Int)<(i:Int)):=by omega
 have q3:¬((n:Int)<(j:Int)):=by omega
 go_enter Tryz.func157,Tryz.ntmps157;go_upto_region 4 with fail
 have HPB:Hid (PB w o ((w.alloc (.cells #[.int .i64 o,.bool false] 48)).alloc (.cells #[.int .i64 o,.bool true] 48))):=by
  have h1:=Blk.new (w.alloc (.cells #[.int .i64 o,.bool false] 48)) 48 [.int .i64 o,.bool true];rw[World.size_alloc]at h1;exact⟨((Below.refl _ _).alloc (Nat.le_refl _) _).alloc (by simp) _,Blk.below (Blk.new w 48 [.int .i64 o,.bool false]) ((Below.refl _ _).alloc (Nat.le_refl _) _) (Blk.new w 48 [.int .i64 o,.bool false]).lt,h1⟩
 obtain⟨w4,hw4⟩:∃u,((w.alloc (.cells #[.int .i64 o,.bool false] 48)).alloc (.cells #[.int .i64 o,.bool true] 48))=u:=⟨_,rfl⟩;rw[hw4]at HPB ⊢;clear hw4;go_cut [8] (fun v wx=>Hid (Below w.heap.size w wx)∧Hid (OwnK wx w.heap.size 48 2 v (n+2) (a_D (putM stops o i j))))
 case first=>
  have hN4:=HPB.out.old.size;refine a_s (t_F w4.drew.heap.size A n c stops o i j) (by kernel_rfl) (by kernel_rfl) (by kernel_rfl) (fun k hk=>?_) (by kernel_rfl) s_6 ?_ ?_
  ·simp only[List.length_cons,List.length_nil]at hk
   simp only[t_F];rw[if_neg (by omega),if_neg (by omega),if_neg (by omega)]
  ·have KEEP:∀u,Below w4.drew.heap.size w4.drew u→Below w4.heap.size w4 u:=fun u h=>(Below.refl w4.heap.size w4).drew.trans h
   refine⟨?_,?_,?_,?_,?_,?_,?_,?_,?_,?_,?_,?_,?_,?_,?_,?_,?_,trivial⟩
   ·exact RStep.pure rfl 28 rfl rfl (by simp) fun listed a u D hI hr hn=>⟨_,a_a (.inl rfl) (hI.out 0 (by kernel_rfl)),pureF.new rfl⟩
   ·exact RStep.pure rfl 29 rfl rfl (by simp) fun listed a u D hI hr hn=>⟨_,a_a (.inl rfl) (hI.out 2 (by kernel_rfl)),pureF.new rfl⟩
   ·refine RStep.pure rfl 30 rfl rfl (by simp) fun listed a u D hI hr hn=>?_
    obtain⟨e0,_⟩:pureF _ _ _:=(hI.get hr hn 0 (by kernel_rfl) (.inl rfl)).1;obtain⟨e1,_⟩:pureF _ _ _:=(hI.get hr hn 1 (by kernel_rfl) (.inl rfl)).1;exact⟨_,d_L (l:=0) (h:=i) rfl e0 (.inl ⟨rfl,rfl⟩) (.inr ⟨_,rfl,e1⟩) (Nat.zero_le _) (by omega) hcc,pureF.new rfl⟩
   ·exact RStep.pure rfl 31 rfl rfl (by simp) fun listed a u D hI hr hn=>⟨_,a_f rfl (hI.out 9 (by kernel_rfl)) (e_J ((HPB.out.pick).below (KEEP u hI.old) HPB.out.pick.lt)),pureF.new rfl⟩
   ·refine RStep.val rfl 32 rfl rfl (by simp) fun listed a u D hI hr hn=>?_
    obtain⟨e3,_⟩:pureF _ _ _:=(hI.get hr hn 3 (by kernel_rfl) (.inl rfl)).1;exact⟨_,_,_,f_o rfl e3,newp hI.old ⟨_,rfl,Blk.new u _ _,fun b=>Iff.rfl⟩⟩
   ·exact RStep.pure rfl 33 rfl rfl (by simp) fun listed a u D hI hr hn=>⟨_,a_a (.inl rfl) (hI.out 0 (by kernel_rfl)),pureF.new rfl⟩
   ·exact RStep.pure rfl 34 rfl rfl (by simp) fun listed a u D hI hr hn=>⟨_,a_a (.inl rfl) (hI.out 2 (by kernel_rfl)),pureF.new rfl⟩
   ·exact RStep.pure rfl 35 rfl rfl (by simp) fun listed a u D hI hr hn=>⟨_,a_a (.inl rfl) (hI.out 3 (by kernel_rfl)),pureF.new rfl⟩
   ·refine RStep.pure rfl 36 rfl rfl (by simp) fun listed a u D hI hr hn=>?_
    obtain⟨e5,_⟩:pureF _ _ _:=(hI.get hr hn 5 (by kernel_rfl) (.inl rfl)).1;obtain⟨e6,_⟩:pureF _ _ _:=(hI.get hr hn 6 (by kernel_rfl) (.inl rfl)).1;obtain⟨e7,_⟩:pureF _ _ _:=(hI.get hr hn 7 (by kernel_rfl) (.inl rfl)).1;exact⟨_,d_L (l:=i) (h:=j) rfl e5 (.inr ⟨_,rfl,e6⟩) (.inr ⟨_,rfl,e7⟩) hij hj hcc,pureF.new rfl⟩
   ·exact RStep.pure rfl 37 rfl rfl (by simp) fun listed a u D hI hr hn=>⟨_,a_f rfl (hI.out 10 (by kernel_rfl)) (e_J ((HPB.out.drop).below (KEEP u hI.old) HPB.out.drop.lt)),pureF.new rfl⟩
   ·refine RStep.val rfl 38 rfl rfl (by simp) fun listed a u D hI hr hn=>?_
    obtain⟨e3,_⟩:pureF _ _ _:=(hI.get hr hn 9 (by kernel_rfl) (.inl rfl)).1;exact⟨_,_,_,f_o rfl e3,newp hI.old ⟨_,rfl,Blk.new u _ _,fun b=>Iff.rfl⟩⟩
   ·exact RStep.pure rfl 39 rfl rfl (by simp) fun listed a u D hI hr hn=>⟨_,a_a (.inl rfl) (hI.out 0 (by kernel_rfl)),pureF.new rfl⟩
   ·exact RStep.pure rfl 40 rfl rfl (by simp) fun listed a u D hI hr hn=>⟨_,a_a (.inl rfl) (hI.out 3 (by kernel_rfl)),pureF.new rfl⟩
   ·refine RStep.pure rfl 41 rfl rfl (by simp) fun listed a u D hI hr hn=>?_
    obtain⟨e11,_⟩:pureF _ _ _:=(hI.get hr hn 11 (by kernel_rfl) (.inl rfl)).1;obtain⟨e12,_⟩:pureF _ _ _:=(hI.get hr hn 12 (by kernel_rfl) (.inl rfl)).1;exact⟨_,d_L (l:=j) (h:=n) rfl e11 (.inr ⟨_,rfl,e12⟩) (.inl ⟨rfl,rfl⟩) hj (Nat.le_refl _) hcc,pureF.new rfl⟩
   ·refine RStep.val rfl 42 rfl rfl (by simp) fun listed a u D hI hr hn=>?_
    obtain⟨e2,_⟩:pureF _ _ _:=(hI.get hr hn 2 (by kernel_rfl) (.inl rfl)).1;obtain⟨e8,_⟩:pureF _ _ _:=(hI.get hr hn 8 (by kernel_rfl) (.inl rfl)).1;obtain⟨e13,_⟩:pureF _ _ _:=(hI.get hr hn 13 (by kernel_rfl) (.inl rfl)).1;obtain⟨ga,e4,hba,hda⟩:blkF _ _ _ _ _ _:=(hI.get hr hn 4 (by kernel_rfl) (.inr rfl)).1;obtain⟨gb,e10,hbb,hdb⟩:blkF _ _ _ _ _ _:=(hI.get hr hn 10 (by kernel_rfl) (.inr rfl)).1;refine⟨_,_,fun b=>b=u.heap.size∨b=ga∨b=gb,q_q (v1:=(some ⟨ga,0,none⟩,1,1)) (v3:=(some ⟨gb,0,none⟩,1,1)) rfl e2 e4 e8 e10 e13,hI.old.alloc hI.old.size _,by simp,fun b hlt _=>Below.heap_alloc u _ b hlt,fun b hd=>?_,⟨_,ga,gb,rfl,Blk.new u _ _,hba.below ((Below.refl _ _).alloc (Nat.le_refl _) _) hba.lt,hbb.below ((Below.refl _ _).alloc (Nat.le_refl _) _) hbb.lt,fun b=>Iff.rfl⟩⟩;rcases hd with rfl|rfl|rfl
    ·exact .inr ⟨Nat.le_refl _,by simp⟩
    ·exact .inl ⟨4,rfl,(hda _).2 rfl⟩
    ·exact .inl ⟨10,rfl,(hdb _).2 rfl⟩
   ·refine RStep.call rfl 43 rfl rfl (by simp) fun listed a u D hI hr hn=>?_
    obtain⟨g,ga,gb,e14,hb,hba,hbb,_⟩:∃g ga gb,_∧_∧_∧_∧_:=(hI.get hr hn 14 (by kernel_rfl) (.inl rfl)).1;refine⟨_,_,n_S rfl e14 (by simp[go_sem]),?_⟩;have hold:=(HPB.out.old.trans ((KEEP u hI.old).mono HPB.out.old.size));have hsu:Stps u u.heap.size A n stops:=Recs.more (Recs.keep HST.out hold) hold.size;have hlen:stops.length=n:=HL.out;have e1:lens (c_o A n c stops o i j ga gb)=n+2:=j_P hij hj;have e2:e_I (c_o A n c stops o i j ga gb)=a_D (putM stops o i j):=j_Q hlen hij hj;have hc:=l_t g 35 5 5 (c_o A n c stops o i j ga gb) u hb rfl (by omega) (i_v hsu hcc hij hj hba hbb) (by rw[e1];omega);rw[e1,e2]at hc;refine hc.mono ?_;rintro e u' ⟨v,rfl,hb',hv⟩;exact⟨v,_,rfl,ownp hI.old hb' hv ⟨hv.lower hI.old.size,fun b=>Iff.rfl⟩⟩
   ·refine RStep.val rfl 8 rfl rfl (by simp) fun listed a u D hI hr hn=>?_
    obtain⟨ho,hd⟩:ownF _ _ _ _ _ _ _ _:=(hI.get hr hn 15 (by kernel_rfl) (.inr rfl)).1;exact⟨_,u,_,a_a (.inr rfl) rfl,hI.old,Nat.le_refl _,fun _ _ _=>rfl,fun b hb=>.inl ⟨15,rfl,hb⟩,ho,hd⟩
  ·intro listed a u D hI hall
   obtain⟨ho,_⟩:ownF _ _ _ _ _ _ _ _:=hI.fact 16 ⟨hall 16 (by simp),fun k hk=>by cases hk⟩;have hold:=HPB.out.old.trans (((Below.refl w4.heap.size w4).drew.trans hI.old).mono HPB.out.old.size);have hl:=hI.fill [28,29,30,31,32,33,34,35,36,37,38,39,40,41,42,43,8] (by kernel_rfl);replace ho:OwnK u w4.drew.heap.size 48 2 (a.tmps.getD 8 undef) (n+2) (a_D (putM stops o i j)):=ho;have ho2:=ho.lower (b':=w.heap.size) HPB.out.old.size;clear hI hall ho;obtain⟨σ,hσ⟩:∃σ:Nat→Value,∀t,a.tmps.getD t undef=σ t:=⟨_,fun _=>rfl⟩;simp only[hσ]at hl ho2;clear hσ;simp only[List.foldl_cons,List.foldl_nil,List.setIfInBounds_toArray,List.set_cons_zero,List.set_cons_succ]at hl;subst hl;go_wp2_with fail
   go_meet
   exact⟨hold,ho2⟩
 case rest=>
 obtain⟨HB,HO⟩:=hcut;go_wp2_with fail
 go_ret;exact⟨_,rfl,HB.out,HO.out⟩
theorem gput_any(A:Option Addr)(n c:Nat)(stops:List Stp)(o i j:Int)(w:World)(hs:Stps w w.heap.size A n stops)(hcc:n≤c)(hr:n*16≤140737488351232):
 Calls Tryz.prog 157 #[.slice A n c,.int .i64 o,.int .i64 i,.int .i64 j] w (c_X w 48 2 (putR stops o i j).length (a_D (putR stops o i j))):=by
 have hl:=hs.length;have hm:=Recs.le hs;by_cases h:0≤i∧i≤j∧j≤(n:Int)
 ·obtain⟨i,rfl⟩:∃x:Nat,i=x:=⟨i.toNat,by omega⟩
  obtain⟨j,rfl⟩:∃x:Nat,j=x:=⟨j.toNat,by omega⟩;rw[l_L (by omega) (by omega),f_B (by omega) (by omega),hl];exact r_0 A n c stops o i j w hs hcc (by omega) (by omega) hr
 ·have HP:=Lib.hid (o_9 (o:=o) (by rw[hl];exact h))
  clear hs hl;go_enter Tryz.func157,Tryz.ntmps157;by_cases h1:i<0
  ·go_wp2_with fail
   go_ret;rw[HP.out];exact⟨_,rfl,Below.refl _ _,OwnK.nil _ _ _ _⟩
  by_cases h2:j<i
  ·go_wp2_with fail
   go_ret;rw[HP.out];exact⟨_,rfl,Below.refl _ _,OwnK.nil _ _ _ _⟩
  by_cases h3:(n:Int)<j
  ·go_wp2_with fail
   go_ret;rw[HP.out];exact⟨_,rfl,Below.refl _ _,OwnK.nil _ _ _ _⟩
  exact absurd (by omega) h
end Slack
namespace Slack
open GeoMath Geo Span Deal Route
theorem run_load_ord{u:World}{g:Nat}{o:FleetMath.Ord}(h:OBox u g o):(Instr.loadAt 31 (.pointer (some ⟨g,0,none⟩))).run Tryz.prog u=.ok (ordV o) u:=by
 obtain⟨g0,g1,g2,g3,g4,g5,g6,g7,g8,g9⟩:=h.cells;simp[go_sem,g0,g1,g2,g3,g4,g5,g6,g7,g8,g9]
theorem exec_extract{P:Program}{o:Oper}{a:Act}{u:World}{x:Operand}{k:Nat}{vs:Array Value}{v:Value}(h:o.op=.extract x k)(hp:a.eval x=.tuple vs)(hv:vs[k]?=some v):(execOp a.eval o).run P u=.ok (.value v) u:=by
 unfold execOp;rw[h];simp only[hp];simp[go_sem,hv]
def c_L(A:Option Addr)(n c:Nat)(os:List FleetMath.Ord)(o:FleetMath.Ord)(ga:Nat):List Part:=[⟨A,n,c,a_g os⟩,⟨some ⟨ga,0,none⟩,1,1,ordL o⟩]
section
variable {A : Option Addr} {n c ga : Nat} {os : List FleetMath.Ord} {o : FleetMath.Ord}
theorem f_p:lens (c_L A n c os o ga)=n+1:=by
 simp only[c_L,lens,List.map_cons,List.map_nil,List.sum_cons,List.sum_nil];omega
theorem j_R:e_I (c_L A n c os o ga)=a_g (os++[o]):=by
 simp only[c_L,e_I,List.flatMap_cons,List.flatMap_nil,List.append_nil,a_Z];rfl
theorem i_w{u:World}(hs:Ords u u.heap.size A n os)(ha:Blk u ga 31 (ordL o)):r_Z u u.heap.size 10 (c_L A n c os o ga):=by
 intro p hp;simp only[c_L,List.mem_cons,List.not_mem_nil,or_false]at hp;rcases hp with rfl|rfl
 ·exact⟨hs,c_f _⟩
 ·exact⟨⟨rfl,by show 1≤maxLen;unfold maxLen;omega,fun _=>⟨ga,0,rfl,ha.lt,fun p y hy=>by rw[Nat.zero_add];exact ha.cell hy⟩⟩,r_d o⟩
end
end Slack
end Go.Proofs.YtkpnmpjnpcjohaaGreat
