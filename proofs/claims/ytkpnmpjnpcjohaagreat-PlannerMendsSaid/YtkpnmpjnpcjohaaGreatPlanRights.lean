import Derived.Test.YtkpnmpjnpcjohaaGreatPlanPSmalls
set_option linter.unusedVariables false
set_option maxHeartbeats 2000000
set_option maxRecDepth 100000
namespace Go.Proofs.YtkpnmpjnpcjohaaGreat
open ChangeShapes WideShapes ChangeAt RowKit Mem FleetMath PlanMath Rec
namespace Plan
section
variable {o : Oper} {a : Act} {u : World} {x y : Operand}
theorem s_I{g i:Nat}(h:o.op=.fieldAddr 37 x 0)(hp:a.eval x=.pointer (some ⟨g,i,none⟩)):(execOp a.eval o).run Tryz.prog u=.ok (.value (.pointer (some ⟨g,i,none⟩))) u:=by
 unfold execOp;rw[h];simp only[hp];simp[go_sem]
theorem s_J{g i:Nat}(h:o.op=.fieldAddr 37 x 2)(hp:a.eval x=.pointer (some ⟨g,i,none⟩)):(execOp a.eval o).run Tryz.prog u=.ok (.value (.pointer (some ⟨g,i+2,none⟩))) u:=by
 unfold execOp;rw[h];simp only[hp];simp[go_sem]
theorem c_y{p:Addr}{v:Int}(h:u.cell? p=some (.int .i64 v)):(Instr.loadAt 3 (.pointer (some p))).run Tryz.prog u=.ok (.int .i64 v) u:=by
 simp[go_sem,h]
theorem g_d{p:Addr}{v:Bool}(h:u.cell? p=some (.bool v)):(Instr.loadAt 4 (.pointer (some p))).run Tryz.prog u=.ok (.bool v) u:=by
 simp[go_sem,h]
theorem e_b{p:Addr}{A:Option Addr}{n c:Nat}(h:u.cell? p=some (.slice A n c)):(Instr.loadAt 35 (.pointer (some p))).run Tryz.prog u=.ok (.slice A n c) u:=by
 simp[go_sem,h]
end
end Plan
namespace Plan
structure RS (w wr:World) (L:List Stp) (m:Nat):Prop where
 old:Below w.heap.size w wr
 set:SetS wr w.heap.size L.length L
 few:L.length≤m
theorem RS.below{w wr w':World}{L:List Stp}{m:Nat}(h:RS w wr L m)(hb:Below wr.heap.size wr w'):RS w w' L m:=⟨h.old.trans (hb.mono h.old.size),h.set.below hb h.set.lt,h.few⟩
theorem RS.drew{w wr:World}{L:List Stp}{m:Nat}(h:RS w wr L m)(d:Nat):RS w (wr.drewN d) L m:=⟨a_l h.old d,h.set.block rfl,h.few⟩
theorem RS.put{w wr w':World}{L:List Stp}{m:Nat}{s:Stp}(h:RS w wr L m)(hs:SetS w' w.heap.size (L.length+1) (L++[s]))(ht:wr.mapTurned w' w.heap.size):RS w w' (L++[s]) (m+1):=
 ⟨h.old.trans (f_h ht (Nat.le_refl _) h.old.size),by rw[List.length_append];exact hs,by have:=h.few;rw[List.length_append];simp only[List.length_cons,List.length_nil];omega⟩
theorem n_g{w w':World}{g b:Nat}{t:TypeId}{vs:List Value}(h:Blk w g t vs)(ht:w.mapTurned w' b)(hne:g≠b):Blk w' g t vs:=
 (ht.grown.block g h.lt (fun e=>hne (by injection e))).trans h
theorem pright_any(A:Option Addr)(n c:Nat)(l:List RM)(w:World)(hl:Plns w w.heap.size A n l):
 Calls Tryz.prog 74 #[.slice A n c] w (fun e w'=>e=.returned (.bool (a_h (l.map (·.rt))))∧Below w.heap.size w w'):=by
 have hm:=Recs.le hl.rows;have HL:=Lib.hid hl.length;have HI:=Lib.hid hl;have hmm:=@run_makeMap Tryz.prog;have HS0:Hid (RS w (w.alloc (.map #[] 0)) [] (0*80)):=⟨(Below.refl _ _).alloc (Nat.le_refl _) _,SetS.made w,Nat.zero_le _⟩;clear hl;by_cases h8:(8:Int)<n
 ·have HR:Hid (false=a_h (l.map (·.rt))):=by
   have:=HL.out;have e:decide ((l.map (·.rt)).length≤8)=false:=by simp only[List.length_map,decide_eq_false_iff_not];omega
   rw[b_h,e];exact Lib.hid rfl
  go_enter Tryz.func74,Tryz.ntmps74;go_wp2
  go_ret;exact b_A HR.out (Below.refl _ _)
 ·have HR:Hid (b_z 0 [] (l.map (·.rt))=a_h (l.map (·.rt))):=by
   have:=HL.out;have e:decide ((l.map (·.rt)).length≤8)=true:=by simp only[List.length_map,decide_eq_true_eq];omega
   rw[b_h,e];exact Lib.hid rfl
  go_enter Tryz.func74,Tryz.ntmps74;go_wp2
  go_loopw [3,4,16] (fun la ct i wr=>∃(k:Nat) (last:Int) (L:List Stp),k≤n∧i=.int .i64 k∧la=.int .i64 last∧ct=.int .i64 (L.length:Int)∧L.length≤k*80∧Hid (RS w wr L (k*80))∧Hid (b_z last L ((l.drop k).map (·.rt))=a_h (l.map (·.rt)))) (fun _ _ i _=>n-(intOf i).toNat)
  case atStart=>exact⟨0,0,[],Nat.zero_le _,rfl,rfl,rfl,Nat.zero_le _,HS0,HR⟩
  case round=>
   clear HS0 HR;obtain⟨k,last,L,hk,rfl,rfl,rfl,hfew,HS,HK⟩:=hrel;by_cases hlt:k<n
   ·obtain⟨b,off,x,rfl,hbb,hx,hdr,c0,c1,c2,hst,hxc⟩:=(HI.out.keep HS.out.old).at_ hlt
    have HX:=Lib.hid hst;have HXL:=Lib.hid hst.length;have HK1:=HK.out;rw[hdr,List.map_cons,d_X]at HK1;have HKK:=Lib.hid HK1;have HXX:=Lib.hid hx;clear hx hdr HK1 HK hst;have HB0:Hid (Below wr.heap.size wr (wr.alloc (.cells #[.int .i64 x.rt.drv,.int .i64 x.rt.served,.slice x.a x.n x.c] 37))):=(Below.refl _ _).alloc (Nat.le_refl _) _;have HQ:Hid (Blk (wr.alloc (.cells #[.int .i64 x.rt.drv,.int .i64 x.rt.served,.slice x.a x.n x.c] 37)) wr.heap.size 37 [.int .i64 x.rt.drv,.int .i64 x.rt.served,.slice x.a x.n x.c]):=Blk.new _ _ _;by_cases ha:x.rt.drv≤last
    ·have HF:Hid (false=a_h (l.map (·.rt))):=by
      have h:=HKK.out;rw[decide_eq_false (by omega),Bool.false_and,Bool.false_and]at h;exact h
     have HE:Hid (Below w.heap.size w (wr.alloc (.cells #[.int .i64 x.rt.drv,.int .i64 x.rt.served,.slice x.a x.n x.c] 37))):=(HS.out.below HB0.out).old;clear HKK;go_wp2
     go_ret;exact b_A HF.out HE.out
    ·by_cases hb:(1000000:Int)<x.rt.drv
     ·have HF:Hid (false=a_h (l.map (·.rt))):=by
       have h:=HKK.out;rw[decide_eq_false (by omega),Bool.false_and,Bool.false_and]at h;exact h
      have HE:Hid (Below w.heap.size w (wr.alloc (.cells #[.int .i64 x.rt.drv,.int .i64 x.rt.served,.slice x.a x.n x.c] 37))):=(HS.out.below HB0.out).old;clear HKK;go_wp2
      go_ret;exact b_A HF.out HE.out
     ·have HKL:Hid ((a_7 x.rt && b_z x.rt.drv (L++x.rt.stops) ((l.drop (k+1)).map (·.rt)))=a_h (l.map (·.rt))):=by
       have h:=HKK.out;rw[decide_eq_true (by omega),Bool.true_and]at h;exact h
      clear HKK;have HX1:Hid (Stps (wr.alloc (.cells #[.int .i64 x.rt.drv,.int .i64 x.rt.served,.slice x.a x.n x.c] 37)) (wr.alloc (.cells #[.int .i64 x.rt.drv,.int .i64 x.rt.served,.slice x.a x.n x.c] 37)).heap.size x.a x.n x.rt.stops):=Recs.more (Recs.keep HX.out (HB0.out.mono HS.out.old.size)) (Nat.le_trans HS.out.old.size HB0.out.size);go_wp2_with fail
      refine(j_a _ _ _ x.rt _ (by exact HX1.out)).mono ?_;rintro e w1 ⟨rfl,hb1⟩;have HS1:Hid (RS w w1 L (k*80)):=(HS.out.below HB0.out).below hb1;have HQ1:=Lib.hid (HQ.out.below hb1 HQ.out.lt);clear hb1 HX1 HX HB0 HQ c0 c1 c2;obtain⟨br,hbr⟩:∃r,a_7 x.rt=r:=⟨_,rfl⟩;have HBR:=Lib.hid hbr;rw[hbr];clear hbr;cases br with
      |false=>
       have HF:Hid (false=a_h (l.map (·.rt))):=by
        have h:=HKL.out;rw[HBR.out,Bool.false_and]at h;exact h
       clear HKL;go_wp2
       go_ret;exact b_A HF.out HS1.out.old
      |true=>
       have HKM:Hid (b_z x.rt.drv (L++x.rt.stops) ((l.drop (k+1)).map (·.rt))=a_h (l.map (·.rt))):=by
        have h:=HKL.out;rw[HBR.out,Bool.true_and]at h;exact h
       have m2:=HQ1.out.cell (i:=2) rfl
       have HSL:Hid (RS w w1 (L++x.rt.stops.take 0) (k*80+0)):=by
        rw[List.take_zero,List.append_nil];exact HS1
       have hx80:x.n≤80:=by
        have:=c_0 HBR.out;rw[HXL.out]at this;exact this
       have HGN:Hid (wr.heap.size≠w.heap.size):=Lib.hid (Nat.ne_of_gt HS.out.set.lt);clear HKL HS1;go_wp2
       go_loopw [37] (fun i wi=>∃(j:Nat),j≤x.n∧i=.int .i64 j∧Hid (RS w wi (L++x.rt.stops.take j) (k*80+j))∧Hid (Blk wi wr.heap.size 37 [.int .i64 x.rt.drv,.int .i64 x.rt.served,.slice x.a x.n x.c])) (fun i _=>x.n-(intOf i).toNat)
       case atStart=>exact⟨0,Nat.zero_le _,rfl,HSL,HQ1⟩
       case round=>
        clear HSL HQ1 m2;obtain⟨j,hj,rfl,HSI,HQI⟩:=hrel;obtain⟨wi,rfl⟩:∃z,z=wr:=⟨_,rfl⟩;by_cases hlt2:j<x.n
        ·obtain⟨_,_,y,_,_,hy,_,_,_,_,hst,_⟩:=(HI.out.keep HSI.out.old).at_ hlt
         obtain rfl:y=x:=by rw[HXX.out]at hy;injection hy with h;exact h.symm
         obtain⟨b2,off2,s,hxa,hbb2,hs,hdr2,s0,s1⟩:=Stps.at_ hst hlt2;have hmem:s∈y.rt.stops:=List.mem_of_getElem? hs;have hso:=c_s HBR.out hmem;have hwf:(Lit.int .i64 s.ord).wf=true:=WalkArith.wf_i64 (by omega);have HSO:=Lib.hid hwf;have HT:Hid (y.rt.stops.take (j+1)=y.rt.stops.take j++[s]):=Lib.hid (by rw[List.take_add_one,hs];rfl)
         have hln:(L++y.rt.stops.take j).length≤720:=by
          have h1:=c_0 HBR.out;rw[List.length_append,List.length_take];omega
         have HLN:=Lib.hid hln;have HS2:Hid (RS w (wi.alloc (.cells #[.int .i64 s.ord,.bool s.drop] 48)) (L++y.rt.stops.take j) (k*80+j)):=HSI.out.below ((Below.refl _ _).alloc (Nat.le_refl _) _);have HQ2:=Lib.hid (HQI.out.below ((Below.refl wi.heap.size _).alloc (Nat.le_refl _) (.cells #[.int .i64 s.ord,.bool s.drop] 48)) HQI.out.lt);clear hst hy hs hdr2 hmem hso hwf hln hbb2;go_wp2_with (at_mapUpdate;refine r_t (L:=L++y.rt.stops.take j) rfl _ _ _ rfl s HS2.out.set (by have:=HLN.out;unfold maxLen;omega) HSO.out rfl rfl rfl ?_;intro w2 hs2 ht2;(try simp only[Act.put]))
         have HS3:Hid (RS w w2 (L++y.rt.stops.take (j+1)) (k*80+(j+1))):=by
          rw[HT.out,←List.append_assoc];exact HS2.out.put hs2 ht2
         have HQ3:=Lib.hid (n_g HQ2.out ht2 HGN.out);clear hs2 ht2 HS2 HQ2 HSI HQI;go_roundw
         case rel=>exact⟨j+1,by omega,by go_num,HS3,HQ3⟩
         case measure=>simp[intOf];omega
        ·have hje:j=x.n:=by omega
         subst hje
         have HSE:Hid (RS w wi (L++x.rt.stops) ((k+1)*80)):=by
          have h:=HSI.out;rw[List.take_of_length_le (by rw[HXL.out];exact Nat.le_refl _)]at h;exact⟨h.old,h.set,by have:=h.few;omega⟩
         have m0:=HQI.out.cell (i:=0) rfl;have m2:=HQI.out.cell (i:=2) rfl;have hlen:(L.length:Int)+(x.n:Int)=(((L++x.rt.stops).length:Nat):Int):=by rw[List.length_append,HXL.out];omega
         have hfew2:(L++x.rt.stops).length≤(k+1)*80:=HSE.out.few;obtain⟨q,hq⟩:∃q,(L++x.rt.stops).length=q:=⟨_,rfl⟩;rw[hq]at hlen hfew2;have HQE:=Lib.hid hq;clear HSI HQI hq;go_wp2
         go_quiet (fail)
         go_wp2
         go_roundw
         case rel=>exact⟨k+1,x.rt.drv,L++x.rt.stops,by omega,by go_num,rfl,by rw[HQE.out],by rw[HQE.out];exact hfew2,Lib.hid (HSE.out.drew _),HKM⟩
         case measure=>simp[intOf];omega
   ·have HF:Hid (decide L.Nodup=a_h (l.map (·.rt))):=by
     have h:=HK.out;rw[List.drop_of_length_le (by have:=HL.out;omega)]at h;exact h
    have HE:Hid (Below w.heap.size w wr):=HS.out.old;clear HK;go_wp2_with (at_len;refine p_h rfl _ rfl HS.out.set rfl ?_;intro z hz1 hz2)
    go_ret;refine b_A ?_ HE.out;rw[← HF.out]
    have:((z:Int)==(L.length:Int))=decide (z=L.length):=by
     rw[Bool.eq_iff_iff];simp only[beq_iff_eq,decide_eq_true_eq];omega
    rw[this];exact decide_eq_decide.2 hz2
end Plan
end Go.Proofs.YtkpnmpjnpcjohaaGreat
