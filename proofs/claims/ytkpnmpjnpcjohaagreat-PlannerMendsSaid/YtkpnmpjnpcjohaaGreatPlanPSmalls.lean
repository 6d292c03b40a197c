import Derived.Test.YtkpnmpjnpcjohaaGreatPlanSmalls
import Derived.Test.YtkpnmpjnpcjohaaGreatRegions
set_option linter.unusedVariables false
set_option maxHeartbeats 1000000
set_option maxRecDepth 100000
namespace Go.Proofs.YtkpnmpjnpcjohaaGreat
open ChangeShapes WideShapes ChangeAt RowKit Mem FleetMath PlanMath Rec
namespace Plan
theorem b_A{w w':World}{s t:Bool}{B:Nat}(h:s=t)(hb:Below B w w'):Ending.returned (.bool s)=.returned (.bool t)∧Below B w w':=⟨by rw[h],hb⟩
theorem pnumbered_val(a:Int)(r:Bool)(w:World)(h:nmb a=r):Calls Tryz.prog 156 #[.int .i64 a] w fun e w'=>e=.returned (.bool r)∧w=w':=by
 subst h;go_enter Tryz.func156,Tryz.ntmps156;go_wp2
 all_goals
  go_ret;refine⟨?_,rfl⟩
  first
   |(simp_all[nmb];done)
   |(simp_all[nmb];omega)
theorem r_l{l:List Stp}{k:Nat}{s:Stp}{p:Stp→Bool}(h:l.drop k=s::l.drop (k+1)):(l.drop k).all p=(p s && (l.drop (k+1)).all p):=by rw[h,List.all_cons]
theorem j_a(A:Option Addr)(n c:Nat)(x:Rte)(w:World)(hl:Stps w w.heap.size A n x.stops):
 Calls Tryz.prog 136 #[.agg #[.int .i64 x.drv,.int .i64 x.served,.slice A n c]] w (fun e w'=>e=.returned (.bool (a_7 x))∧Below w.heap.size w w'):=by
 have hm:=Recs.le hl;have HL:=Lib.hid hl.length;have HI:=Lib.hid hl;have HB1:Hid (Below w.heap.size w (w.alloc (.cells #[.int .i64 x.drv,.int .i64 x.served,.slice A n c] 37))):=(Below.refl _ _).alloc (Nat.le_refl _) _;clear hl;go_enter Tryz.func136,Tryz.ntmps136;by_cases h1:(80:Int)<n
 ·have HR:Hid (false=a_7 x):=by
   have:=HL.out;simp only[a_7,Bool.false_eq,Bool.and_eq_false_iff,decide_eq_false_iff_not];exact .inl (by omega)
  go_wp2
  go_ret;exact b_A HR.out HB1.out
 ·by_cases h2:x.served<0
  ·have HR:Hid (false=a_7 x):=by
    simp only[a_7,Bool.false_eq,Bool.and_eq_false_iff,decide_eq_false_iff_not];exact .inl (by omega)
   go_wp2
   go_ret;exact b_A HR.out HB1.out
  ·by_cases h3:(n:Int)<x.served
   ·have HR:Hid (false=a_7 x):=by
     have:=HL.out;simp only[a_7,Bool.false_eq,Bool.and_eq_false_iff,decide_eq_false_iff_not];exact .inl (by omega)
    go_wp2
    go_ret;exact b_A HR.out HB1.out
   ·have HR:Hid (x.stops.all (fun s=>nmb s.ord)=a_7 x):=Lib.hid (by
     have:=HL.out;have e:decide (x.stops.length≤80∧0≤x.served∧x.served≤x.stops.length)=true:=by simp only[decide_eq_true_eq];omega
     unfold a_7;rw[e,Bool.true_and])
    go_wp2
    go_loopw [25] (fun i wr=>∃(k:Nat),k≤n∧i=.int .i64 k∧Hid (Below w.heap.size w wr)∧Hid ((x.stops.drop k).all (fun s=>nmb s.ord)=a_7 x)) (fun i _=>n-(intOf i).toNat)
    case atStart=>exact⟨0,Nat.zero_le _,rfl,HB1,HR⟩
    case round=>
     clear HB1 HR h1 h2 h3;obtain⟨k,hk,rfl,HB,HK⟩:=hrel;by_cases hlt:k<n
     ·obtain⟨b,off,s,rfl,hbb,hs,hdr,s0,s1⟩:=Stps.at_ (Recs.keep HI.out HB.out) hlt
      have HK1:=HK.out;rw[r_l hdr]at HK1;have HKK:=Lib.hid HK1;have HB2:Hid (Below w.heap.size w (wr.alloc (.cells #[.int .i64 s.ord,.bool s.drop] 48))):=HB.out.alloc HB.out.size _;obtain⟨r,hr⟩:∃r,nmb s.ord=r:=⟨_,rfl⟩;have HN:=Lib.hid hr;clear hs hdr HK1 HK hr;go_wp2_with fail
      refine(pnumbered_val _ r _ HN.out).mono ?_;rintro e w1 ⟨rfl,rfl⟩;cases r with
      |true=>
       have HK2:Hid ((x.stops.drop (k+1)).all (fun s=>nmb s.ord)=a_7 x):=by
        have h:=HKK.out;rw[HN.out,Bool.true_and]at h;exact h
       clear HKK;go_wp2
       go_roundw
       case rel=>exact⟨k+1,by omega,by go_num,HB2,HK2⟩
       case measure=>simp[intOf];omega
      |false=>
       have HK2:Hid (false=a_7 x):=by
        have h:=HKK.out;rw[HN.out,Bool.false_and]at h;exact h
       clear HKK;go_wp2
       go_ret;exact b_A HK2.out HB2.out
     ·have HF:Hid (true=a_7 x):=by
       have:=HK.out;rw[List.drop_of_length_le (by have:=HL.out;omega)]at this;exact this
      clear HK;go_wp2
      go_ret;exact b_A HF.out HB.out
theorem pindex_any(A:Option Addr)(n c:Nat)(l:List Stp)(s:Stp)(w:World)(hl:Stps w w.heap.size A n l):
 Calls Tryz.prog 162 #[.slice A n c,stpV s] w (fun e w'=>e=.returned (.int .i64 (idxS l s))∧Below w.heap.size w w'):=by
 have hm:=Recs.le hl;have HL:=Lib.hid hl.length;have HB:Hid (Below w.heap.size w (w.alloc (.cells #[.int .i64 s.ord,.bool s.drop] 48))):=(Below.refl _ _).alloc (Nat.le_refl _) _;have HI:Hid (Stps (w.alloc (.cells #[.int .i64 s.ord,.bool s.drop] 48)) w.heap.size A n l):=Recs.keep hl HB.out;have hbx:=Blk.new w 48 [.int .i64 s.ord,.bool s.drop];have y0:=hbx.cell (i:=0) rfl;have y1:=hbx.cell (i:=1) rfl;clear hl hbx;go_enter Tryz.func162,Tryz.ntmps162;go_wp2
 go_loopw [8] (fun i wr=>∃(k d:Nat),k≤n∧i=.int .i64 k∧wr=(w.alloc (.cells #[.int .i64 s.ord,.bool s.drop] 48)).drewN d∧Hid (c_h (l.drop k) s k=idxS l s)) (fun i _=>n-(intOf i).toNat)
 case atStart=>exact⟨0,0,Nat.zero_le _,rfl,rfl,rfl⟩
 case round=>
  obtain⟨k,d,hk,rfl,rfl,HK⟩:=hrel;by_cases hlt:k<n
  ·obtain⟨b,off,x,rfl,_,hx,hdr,c0,c1⟩:=Stps.at_ HI.out hlt
   have HK1:=HK.out;rw[hdr,b_o]at HK1;clear hx hdr;by_cases he:x=s
   ·rw[if_pos he]at HK1
    have HF:=Lib.hid HK1.symm;subst he;clear HK HK1;go_wp2
    go_quiet (fail)
    go_wp2
    go_ret;exact⟨a_5 (by rw[HF.out]),by first|exact a_l HB.out _|exact a_l (a_l HB.out _) _⟩
   ·rw[if_neg he]at HK1
    have HN:=Lib.hid HK1;clear HK HK1;by_cases e1:x.ord=s.ord
    ·have e3:(s.drop==x.drop)=false:=by
      have:¬s.drop=x.drop:=fun h=>he (Stp.ext_iff'.2 ⟨e1,h.symm⟩);simpa using this
     rw[e1]at c0;clear he e1;go_wp2
     go_quiet (fail)
     go_wp2
     go_roundw
     case rel=>exact⟨k+1,_,by omega,by go_num,rfl,HN⟩
     case measure=>simp[intOf];omega
    ·have e3:(s.ord==x.ord)=false:=by simpa using fun h=>e1 (Eq.symm h)
     clear he e1;go_wp2
     go_quiet (fail)
     go_wp2
     go_roundw
     case rel=>exact⟨k+1,_,by omega,by go_num,rfl,HN⟩
     case measure=>simp[intOf];omega
  ·have HF:Hid (idxS l s=-1):=by
    have:=HK.out;rw[List.drop_of_length_le (by have:=HL.out;omega)]at this;exact this.symm
   clear HK;go_wp2
   go_ret;exact⟨a_5 (by rw[HF.out]),by first|exact a_l HB.out _|exact a_l (a_l HB.out _) _⟩
def g_R(r:Rte)(n:Nat):Nat:=(min (max r.served 0) n).toNat
theorem l_N(r:Rte)(n:Nat):g_R r n≤n:=by unfold g_R;omega
theorem r_m(r:Rte)(n:Nat):((g_R r n:Nat):Int)=min (max r.served 0) n:=by unfold g_R;omega
theorem m_8(r:Rte){n:Nat}(h:r.stops.length=n):b_G r=r.stops.take (g_R r n):=by
 unfold b_G g_R;subst h;rw[List.take_eq_take_iff];omega
theorem pdone_any(A:Option Addr)(n c:Nat)(x:Rte)(w:World)(hn:n≤c)(hm:n≤maxLen):
 Calls Tryz.prog 160 #[.agg #[.int .i64 x.drv,.int .i64 x.served,.slice A n c]] w (fun e w'=>(∃ A':Option Addr,e=.returned (.slice A' (g_R x n) c)∧(0<g_R x n→A'=A))∧Below w.heap.size w w'):=by
 have hd:=r_m x n;have hle:=l_N x n;obtain⟨d,e⟩:∃d,g_R x n=d:=⟨_,rfl⟩;rw[e]at hd hle ⊢;clear e
 have hsl:∀u:World,(Instr.sliceAt 35 (.slice A n c) none (some (.int .i64 (min (max x.served 0) (n:Int)))) none).run Tryz.prog u=.ok (.slice (if c=0 then A else A.map (·.add (0*2))) d c) u:=by
  intro u
  have hsz:(sizeOf 48).run Tryz.prog u=.ok 2 u:=by
   obtain⟨i,hi,_,hz,_⟩:=info_parts e_4;simp[sizeOf,typeInfo,hi,hz]
  have q:d≤c:=Nat.le_trans hle hn;rw[← hd];simp[Instr.sliceAt,Instr.slice,Instr.sliceBounds,Instr.sliceBound,run_underlying Tryz.underlying35,asIntOf,hsz,q]
 have HB1:Hid (Below w.heap.size w (w.alloc (.cells #[.int .i64 x.drv,.int .i64 x.served,.slice A n c] 37))):=(Below.refl _ _).alloc (Nat.le_refl _) _;have HD:=Lib.hid hd;clear hd;go_enter Tryz.func160,Tryz.ntmps160;go_wp2
 go_ret;refine⟨⟨_,rfl,fun h=>?_⟩,HB1.out⟩
 first
  |rfl
  |(rw[if_neg (by omega)];cases A<;>simp[Addr.add])
end Plan
end Go.Proofs.YtkpnmpjnpcjohaaGreat
