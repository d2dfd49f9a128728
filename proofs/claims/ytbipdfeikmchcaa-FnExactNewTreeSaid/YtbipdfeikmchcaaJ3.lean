/- The code's own functions of chapter 3: what they answer (C1 .. C6). -/
import Derived.Test.YtbipdfeikmchcaaC6
